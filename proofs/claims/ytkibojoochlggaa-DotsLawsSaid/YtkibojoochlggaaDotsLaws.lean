/-
  Proved: whatever values of its parameters' types it is called with, deaddroplaw7.DotsLaws returns true, and each argument reads behind the call as it read before.
  Conditions: none but those of the row itself.
  (The frame round the walk was written by the kit's proof-skeleton.mjs.)
-/
import Derived.Test.YtkibojoochlggaaRows
import Derived.WalkKit
import Derived.ProofKit
import Derived.OpenShut
import Derived.ShutString
import Derived.Test.YtkibojoochlggaaDtLaw2
import Derived.ChangeOld
import Derived.Below
namespace Go.Proofs.Ytkibojoochlggaa.dotsLaws
open Go.ChangeShapes Go.WideShapes Go.ChangeAt Go.RowKit
open Go.ChangeMaps (open_string shut_string)
open Go.Proofs.Ytkibojoochlggaa.Mm Go.Proofs.Ytkibojoochlggaa.Dt
set_option linter.unusedVariables false

theorem own : ownKnob Try.prog.godebug = none := by kernel_rfl
theorem laidOut : laidOutB Try.prog = true := by kernel_rfl

/-- WHAT THE WALK IS TOLD OF A SLICE OF INTEGERS THAT CAME IN: it is nil; or it leads to a row of 'cap' cells, the numbers 'zs' (the first 'len' are its elements, the rest its spare room), each fitting its kind. -/
def IsRow (k : IntKind) (w : World) (a : Option Addr) (len cap : Nat) (zs : List Int) : Prop :=
  (a = none ∧ len = 0 ∧ cap = 0 ∧ zs = []) ∨
  ∃ x, a = some x ∧ len ≤ cap ∧ cap ≤ maxLen ∧ zs.length = cap ∧ (∀ i, i < zs.length → w.cell? (x.add i) = some (.int k (zs.getD i 0))) ∧ ∀ n ∈ zs, (Lit.int k n).wf = true

set_option maxHeartbeats 40000000 in
set_option maxRecDepth 100000 in
theorem walk (a0 : Option Addr) (len0 cap0 : Nat) (z0 : List Int) (a1 : Option Addr) (len1 cap1 : Nat) (z1 : List Int) (a2 : Option Addr) (len2 cap2 : Nat) (z2 : List Int) (w : World) (w0 : IsRow .u8 w a0 len0 cap0 z0) (w1 : IsRow .u8 w a1 len1 cap1 z1) (w2 : IsRow .u8 w a2 len2 cap2 z2) :
    Calls Try.prog 5 #[.slice a0 len0 cap0, .slice a1 len1 cap1, .slice a2 len2 cap2] w fun e w' => e = .returned (.bool true) ∧ Below w.heap.size w w' := by
  obtain ⟨n0, hl0, _⟩ := nl_of_row w0
  obtain ⟨n1, hl1, _⟩ := nl_of_row w1
  obtain ⟨n2, hl2, _⟩ := nl_of_row w2
  clear w0 w1 w2
  generalize z0.take len0 = b0 at *
  generalize z1.take len1 = b1 at *
  generalize z2.take len2 = b2 at *
  by_cases hh0 : 60 < len0
  · have t0 : decide ((60 : Int) < (len0 : Int)) = true := decide_eq_true (by omega)
    have s0 : decide (60 < len0) = true := decide_eq_true hh0
    go_enter Try.func5, Try.ntmps5
    go_wp2_with (go_at_call 9; refine (awake_any _).mono ?_; rintro e y ⟨rfl, gy⟩)
    go_ret
    exact ⟨rfl, gb_below gy (Nat.le_refl _)⟩
  · have t0 : decide ((60 : Int) < (len0 : Int)) = false := decide_eq_false (by omega)
    have s0 : decide (60 < len0) = false := decide_eq_false hh0
    by_cases hh1 : 60 < len1
    · have t1 : decide ((60 : Int) < (len1 : Int)) = true := decide_eq_true (by omega)
      have s1 : decide (60 < len1) = true := decide_eq_true hh1
      go_enter Try.func5, Try.ntmps5
      go_wp2_with (go_at_call 9; refine (awake_any _).mono ?_; rintro e y ⟨rfl, gy⟩)
      go_ret
      exact ⟨rfl, gb_below gy (Nat.le_refl _)⟩
    · have t1 : decide ((60 : Int) < (len1 : Int)) = false := decide_eq_false (by omega)
      have s1 : decide (60 < len1) = false := decide_eq_false hh1
      by_cases hh2 : 60 < len2
      · have t2 : decide ((60 : Int) < (len2 : Int)) = true := decide_eq_true (by omega)
        have s2 : decide (60 < len2) = true := decide_eq_true hh2
        go_enter Try.func5, Try.ntmps5
        go_wp2_with (go_at_call 9; refine (awake_any _).mono ?_; rintro e y ⟨rfl, gy⟩)
        go_ret
        exact ⟨rfl, gb_below gy (Nat.le_refl _)⟩
      · have t2 : decide ((60 : Int) < (len2 : Int)) = false := decide_eq_false (by omega)
        have s2 : decide (60 < len2) = false := decide_eq_false hh2
        obtain ⟨a, Ha⟩ : ∃ a, Hid (ofR [] (dotsN b0) = a) := ⟨_, rfl⟩
        obtain ⟨La, HLa⟩ : ∃ L, Hid (a.length = L) := ⟨_, rfl⟩
        have Ma : Hid (May a) := by show May a; rw [← Ha.out]; exact of_may _
        have ba : La ≤ len0 := by have h := set_len b0; rw [Ha.out, n0.1, HLa.out] at h; exact h
        obtain ⟨b, Hb⟩ : ∃ b, Hid (ofR [] (dotsN b1) = b) := ⟨_, rfl⟩
        obtain ⟨Lb, HLb⟩ : ∃ L, Hid (b.length = L) := ⟨_, rfl⟩
        have Mb : Hid (May b) := by show May b; rw [← Hb.out]; exact of_may _
        have bb : Lb ≤ len1 := by have h := set_len b1; rw [Hb.out, n1.1, HLb.out] at h; exact h
        obtain ⟨c, Hc⟩ : ∃ c, Hid (ofR [] (dotsN b2) = c) := ⟨_, rfl⟩
        obtain ⟨Lc, HLc⟩ : ∃ L, Hid (c.length = L) := ⟨_, rfl⟩
        have Mc : Hid (May c) := by show May c; rw [← Hc.out]; exact of_may _
        have bc : Lc ≤ len2 := by have h := set_len b2; rw [Hc.out, n2.1, HLc.out] at h; exact h
        obtain ⟨u, Hu⟩ : ∃ u, Hid (unionR a b = u) := ⟨_, rfl⟩
        obtain ⟨Lu, HLu⟩ : ∃ L, Hid (u.length = L) := ⟨_, rfl⟩
        have Mu : Hid (May u) := by show May u; rw [← Hu.out]; exact union_may Ma.out Mb.out
        have bu : Lu ≤ 16 * (La + Lb) := by have h := union_len a b; rw [Hu.out, HLa.out, HLb.out, HLu.out] at h; omega
        obtain ⟨m, Hm⟩ : ∃ m, Hid (minusR a b = m) := ⟨_, rfl⟩
        obtain ⟨Lm, HLm⟩ : ∃ L, Hid (m.length = L) := ⟨_, rfl⟩
        have Mm : Hid (May m) := by show May m; rw [← Hm.out]; exact minus_may Ma.out Mb.out
        have bm : Lm ≤ 16 * (La + Lb) := by have h := minus_len a b; rw [Hm.out, HLa.out, HLb.out, HLm.out] at h; omega
        obtain ⟨k, Hk⟩ : ∃ k, Hid (minusR a m = k) := ⟨_, rfl⟩
        obtain ⟨Lk, HLk⟩ : ∃ L, Hid (k.length = L) := ⟨_, rfl⟩
        have Mk : Hid (May k) := by show May k; rw [← Hk.out]; exact minus_may Ma.out Mm.out
        have bk : Lk ≤ 16 * (La + Lm) := by have h := minus_len a m; rw [Hk.out, HLa.out, HLm.out, HLk.out] at h; omega
        obtain ⟨v, Hv⟩ : ∃ v, Hid (unionR u c = v) := ⟨_, rfl⟩
        obtain ⟨Lv, HLv⟩ : ∃ L, Hid (v.length = L) := ⟨_, rfl⟩
        have Mv : Hid (May v) := by show May v; rw [← Hv.out]; exact union_may Mu.out Mc.out
        have bv : Lv ≤ 16 * (Lu + Lc) := by have h := union_len u c; rw [Hv.out, HLu.out, HLc.out, HLv.out] at h; omega
        obtain ⟨x, Hx⟩ : ∃ x, Hid (unionR b c = x) := ⟨_, rfl⟩
        obtain ⟨Lx, HLx⟩ : ∃ L, Hid (x.length = L) := ⟨_, rfl⟩
        have Mx : Hid (May x) := by show May x; rw [← Hx.out]; exact union_may Mb.out Mc.out
        have bx : Lx ≤ 16 * (Lb + Lc) := by have h := union_len b c; rw [Hx.out, HLb.out, HLc.out, HLx.out] at h; omega
        have E1 : Hid (unionR b a = u) := by show _ = _; rw [← Hu.out]; exact law_comm Mb.out Ma.out
        have E2 : Hid (unionR a x = v) := by show _ = _; rw [← Hv.out, ← Hu.out, ← Hx.out]; exact (law_assoc Ma.out Mb.out Mc.out).symm
        have E3 : Hid (unionR a a = a) := law_self Ma.out
        have E4 : Hid (unionR m k = a) := by show _ = _; rw [← Hk.out, ← Hm.out]; exact law_whole Ma.out Mb.out
        have E5 : Hid (leB k b = true) := by show _ = _; rw [← Hk.out, ← Hm.out]; exact law_both Ma.out Mb.out
        have E6 : Hid (leB m a = true) := by show _ = _; rw [← Hm.out]; exact law_less Ma.out Mb.out
        have E7 : Hid (leB a u = true) := by show _ = _; rw [← Hu.out]; exact law_more Ma.out Mb.out
        have E9 : Hid ((minusR m a).length = 0) := by show _ = _; rw [← Hm.out]; exact law_none Ma.out Mb.out
        obtain ⟨bv, hbv⟩ : ∃ bv, leB a b = bv := ⟨_, rfl⟩
        have e8 : ((Lm : Int) == 0) = bv := by rw [← hbv]; exact law_nil Ma.out Mb.out Lm (by rw [Hm.out]; exact HLm.out)
        have E8 := Lib.hid hbv
        clear hbv
        have G := gb_refl w none
        go_enter Try.func5, Try.ntmps5
        cases bv
        · go_wp2_with (first
              | (go_at_call 24; (with_reducible refine (make_any a0 len0 cap0 b0 _ n0 (by omega)).mono ?_); rintro e y hR; rw [Ha.out] at hR; obtain ⟨A_a, c_a, rfl, r_a, h_a, gy⟩ := hR.n HLa.out; replace n0 := n0.keep gy; replace n1 := n1.keep gy; replace n2 := n2.keep gy; replace G := gb_none G gy; clear gy)
              | (go_at_call 24; (with_reducible refine (make_any a1 len1 cap1 b1 _ n1 (by omega)).mono ?_); rintro e y hR; rw [Hb.out] at hR; obtain ⟨A_b, c_b, rfl, r_b, h_b, gy⟩ := hR.n HLb.out; replace n0 := n0.keep gy; replace n1 := n1.keep gy; replace n2 := n2.keep gy; replace r_a := r_a.keep gy; replace G := gb_none G gy; clear gy)
              | (go_at_call 24; (with_reducible refine (make_any a2 len2 cap2 b2 _ n2 (by omega)).mono ?_); rintro e y hR; rw [Hc.out] at hR; obtain ⟨A_c, c_c, rfl, r_c, h_c, gy⟩ := hR.n HLc.out; replace n0 := n0.keep gy; replace n1 := n1.keep gy; replace n2 := n2.keep gy; replace r_a := r_a.keep gy; replace r_b := r_b.keep gy; replace G := gb_none G gy; clear gy)
              | (go_at_call 17; (with_reducible refine (pUnion_any A_a A_b La c_a Lb c_b a b _ r_a r_b Ma.out Mb.out (by omega) (by omega) h_b).mono ?_); rintro e y hR; rw [Hu.out] at hR; obtain ⟨A_u, c_u, rfl, r_u, h_u, gy⟩ := hR.n HLu.out; replace n0 := n0.keep gy; replace n1 := n1.keep gy; replace n2 := n2.keep gy; replace r_a := r_a.keep gy; replace r_b := r_b.keep gy; replace r_c := r_c.keep gy; replace G := gb_none G gy; clear gy)
              | (go_at_call 19; (with_reducible refine (pMinus_any A_a A_b La c_a Lb c_b a b _ r_a r_b Ma.out Mb.out (by omega) (by omega) h_b).mono ?_); rintro e y hR; rw [Hm.out] at hR; obtain ⟨A_m, c_m, rfl, r_m, h_m, gy⟩ := hR.n HLm.out; replace n0 := n0.keep gy; replace n1 := n1.keep gy; replace n2 := n2.keep gy; replace r_a := r_a.keep gy; replace r_b := r_b.keep gy; replace r_c := r_c.keep gy; replace r_u := r_u.keep gy; replace G := gb_none G gy; clear gy)
              | (go_at_call 19; (with_reducible refine (pMinus_any A_a A_m La c_a Lm c_m a m _ r_a r_m Ma.out Mm.out (by omega) (by omega) h_m).mono ?_); rintro e y hR; rw [Hk.out] at hR; obtain ⟨A_k, c_k, rfl, r_k, h_k, gy⟩ := hR.n HLk.out; replace n0 := n0.keep gy; replace n1 := n1.keep gy; replace n2 := n2.keep gy; replace r_a := r_a.keep gy; replace r_b := r_b.keep gy; replace r_c := r_c.keep gy; replace r_u := r_u.keep gy; replace r_m := r_m.keep gy; replace G := gb_none G gy; clear gy)
              | (go_at_call 17; (with_reducible refine (pUnion_any A_b A_a Lb c_b La c_a b a _ r_b r_a Mb.out Ma.out (by omega) (by omega) h_a).mono ?_); rintro e y hR; rw [E1.out] at hR; obtain ⟨A_u2, c_u2, rfl, r_u2, h_u2, gy⟩ := hR.n HLu.out; replace n0 := n0.keep gy; replace n1 := n1.keep gy; replace n2 := n2.keep gy; replace r_a := r_a.keep gy; replace r_b := r_b.keep gy; replace r_c := r_c.keep gy; replace r_u := r_u.keep gy; replace r_m := r_m.keep gy; replace r_k := r_k.keep gy; replace G := gb_none G gy; clear gy)
              | (go_at_call 12; (with_reducible refine (same_yes A_u A_u2 Lu c_u Lu c_u2 u u _ r_u r_u2 rfl (by omega) (by omega)).mono ?_); rintro e y ⟨rfl, gy⟩; replace n0 := n0.keep gy; replace n1 := n1.keep gy; replace n2 := n2.keep gy; replace r_a := r_a.keep gy; replace r_b := r_b.keep gy; replace r_c := r_c.keep gy; replace r_u := r_u.keep gy; replace r_m := r_m.keep gy; replace r_k := r_k.keep gy; replace r_u2 := r_u2.keep gy; replace G := gb_none G gy; clear gy)
              | (go_at_call 17; (with_reducible refine (pUnion_any A_u A_c Lu c_u Lc c_c u c _ r_u r_c Mu.out Mc.out (by omega) (by omega) h_c).mono ?_); rintro e y hR; rw [Hv.out] at hR; obtain ⟨A_v, c_v, rfl, r_v, h_v, gy⟩ := hR.n HLv.out; replace n0 := n0.keep gy; replace n1 := n1.keep gy; replace n2 := n2.keep gy; replace r_a := r_a.keep gy; replace r_b := r_b.keep gy; replace r_c := r_c.keep gy; replace r_u := r_u.keep gy; replace r_m := r_m.keep gy; replace r_k := r_k.keep gy; replace r_u2 := r_u2.keep gy; replace G := gb_none G gy; clear gy)
              | (go_at_call 17; (with_reducible refine (pUnion_any A_b A_c Lb c_b Lc c_c b c _ r_b r_c Mb.out Mc.out (by omega) (by omega) h_c).mono ?_); rintro e y hR; rw [Hx.out] at hR; obtain ⟨A_x, c_x, rfl, r_x, h_x, gy⟩ := hR.n HLx.out; replace n0 := n0.keep gy; replace n1 := n1.keep gy; replace n2 := n2.keep gy; replace r_a := r_a.keep gy; replace r_b := r_b.keep gy; replace r_c := r_c.keep gy; replace r_u := r_u.keep gy; replace r_m := r_m.keep gy; replace r_k := r_k.keep gy; replace r_u2 := r_u2.keep gy; replace r_v := r_v.keep gy; replace G := gb_none G gy; clear gy)
              | (go_at_call 17; (with_reducible refine (pUnion_any A_a A_x La c_a Lx c_x a x _ r_a r_x Ma.out Mx.out (by omega) (by omega) h_x).mono ?_); rintro e y hR; rw [E2.out] at hR; obtain ⟨A_v2, c_v2, rfl, r_v2, h_v2, gy⟩ := hR.n HLv.out; replace n0 := n0.keep gy; replace n1 := n1.keep gy; replace n2 := n2.keep gy; replace r_a := r_a.keep gy; replace r_b := r_b.keep gy; replace r_c := r_c.keep gy; replace r_u := r_u.keep gy; replace r_m := r_m.keep gy; replace r_k := r_k.keep gy; replace r_u2 := r_u2.keep gy; replace r_v := r_v.keep gy; replace r_x := r_x.keep gy; replace G := gb_none G gy; clear gy)
              | (go_at_call 12; (with_reducible refine (same_yes A_v A_v2 Lv c_v Lv c_v2 v v _ r_v r_v2 rfl (by omega) (by omega)).mono ?_); rintro e y ⟨rfl, gy⟩; replace n0 := n0.keep gy; replace n1 := n1.keep gy; replace n2 := n2.keep gy; replace r_a := r_a.keep gy; replace r_b := r_b.keep gy; replace r_c := r_c.keep gy; replace r_u := r_u.keep gy; replace r_m := r_m.keep gy; replace r_k := r_k.keep gy; replace r_u2 := r_u2.keep gy; replace r_v := r_v.keep gy; replace r_x := r_x.keep gy; replace r_v2 := r_v2.keep gy; replace G := gb_none G gy; clear gy)
              | (go_at_call 17; (with_reducible refine (pUnion_any A_a A_a La c_a La c_a a a _ r_a r_a Ma.out Ma.out (by omega) (by omega) h_a).mono ?_); rintro e y hR; rw [E3.out] at hR; obtain ⟨A_a2, c_a2, rfl, r_a2, h_a2, gy⟩ := hR.n HLa.out; replace n0 := n0.keep gy; replace n1 := n1.keep gy; replace n2 := n2.keep gy; replace r_a := r_a.keep gy; replace r_b := r_b.keep gy; replace r_c := r_c.keep gy; replace r_u := r_u.keep gy; replace r_m := r_m.keep gy; replace r_k := r_k.keep gy; replace r_u2 := r_u2.keep gy; replace r_v := r_v.keep gy; replace r_x := r_x.keep gy; replace r_v2 := r_v2.keep gy; replace G := gb_none G gy; clear gy)
              | (go_at_call 12; (with_reducible refine (same_yes A_a2 A_a La c_a2 La c_a a a _ r_a2 r_a rfl (by omega) (by omega)).mono ?_); rintro e y ⟨rfl, gy⟩; replace n0 := n0.keep gy; replace n1 := n1.keep gy; replace n2 := n2.keep gy; replace r_a := r_a.keep gy; replace r_b := r_b.keep gy; replace r_c := r_c.keep gy; replace r_u := r_u.keep gy; replace r_m := r_m.keep gy; replace r_k := r_k.keep gy; replace r_u2 := r_u2.keep gy; replace r_v := r_v.keep gy; replace r_x := r_x.keep gy; replace r_v2 := r_v2.keep gy; replace r_a2 := r_a2.keep gy; replace G := gb_none G gy; clear gy)
              | (go_at_call 17; (with_reducible refine (pUnion_any A_m A_k Lm c_m Lk c_k m k _ r_m r_k Mm.out Mk.out (by omega) (by omega) h_k).mono ?_); rintro e y hR; rw [E4.out] at hR; obtain ⟨A_a3, c_a3, rfl, r_a3, h_a3, gy⟩ := hR.n HLa.out; replace n0 := n0.keep gy; replace n1 := n1.keep gy; replace n2 := n2.keep gy; replace r_a := r_a.keep gy; replace r_b := r_b.keep gy; replace r_c := r_c.keep gy; replace r_u := r_u.keep gy; replace r_m := r_m.keep gy; replace r_k := r_k.keep gy; replace r_u2 := r_u2.keep gy; replace r_v := r_v.keep gy; replace r_x := r_x.keep gy; replace r_v2 := r_v2.keep gy; replace r_a2 := r_a2.keep gy; replace G := gb_none G gy; clear gy)
              | (go_at_call 12; (with_reducible refine (same_yes A_a3 A_a La c_a3 La c_a a a _ r_a3 r_a rfl (by omega) (by omega)).mono ?_); rintro e y ⟨rfl, gy⟩; replace n0 := n0.keep gy; replace n1 := n1.keep gy; replace n2 := n2.keep gy; replace r_a := r_a.keep gy; replace r_b := r_b.keep gy; replace r_c := r_c.keep gy; replace r_u := r_u.keep gy; replace r_m := r_m.keep gy; replace r_k := r_k.keep gy; replace r_u2 := r_u2.keep gy; replace r_v := r_v.keep gy; replace r_x := r_x.keep gy; replace r_v2 := r_v2.keep gy; replace r_a2 := r_a2.keep gy; replace r_a3 := r_a3.keep gy; replace G := gb_none G gy; clear gy)
              | (go_at_call 23; (with_reducible refine (pLe_any A_k A_b Lk c_k Lb c_b k b _ r_k r_b Mk.out Mb.out (by omega) (by omega)).mono ?_); rintro e y ⟨he, gy⟩; rw [E5.out] at he; subst he; replace n0 := n0.keep gy; replace n1 := n1.keep gy; replace n2 := n2.keep gy; replace r_a := r_a.keep gy; replace r_b := r_b.keep gy; replace r_c := r_c.keep gy; replace r_u := r_u.keep gy; replace r_m := r_m.keep gy; replace r_k := r_k.keep gy; replace r_u2 := r_u2.keep gy; replace r_v := r_v.keep gy; replace r_x := r_x.keep gy; replace r_v2 := r_v2.keep gy; replace r_a2 := r_a2.keep gy; replace r_a3 := r_a3.keep gy; replace G := gb_none G gy; clear gy)
              | (go_at_call 23; (with_reducible refine (pLe_any A_m A_a Lm c_m La c_a m a _ r_m r_a Mm.out Ma.out (by omega) (by omega)).mono ?_); rintro e y ⟨he, gy⟩; rw [E6.out] at he; subst he; replace n0 := n0.keep gy; replace n1 := n1.keep gy; replace n2 := n2.keep gy; replace r_a := r_a.keep gy; replace r_b := r_b.keep gy; replace r_c := r_c.keep gy; replace r_u := r_u.keep gy; replace r_m := r_m.keep gy; replace r_k := r_k.keep gy; replace r_u2 := r_u2.keep gy; replace r_v := r_v.keep gy; replace r_x := r_x.keep gy; replace r_v2 := r_v2.keep gy; replace r_a2 := r_a2.keep gy; replace r_a3 := r_a3.keep gy; replace G := gb_none G gy; clear gy)
              | (go_at_call 23; (with_reducible refine (pLe_any A_a A_u La c_a Lu c_u a u _ r_a r_u Ma.out Mu.out (by omega) (by omega)).mono ?_); rintro e y ⟨he, gy⟩; rw [E7.out] at he; subst he; replace n0 := n0.keep gy; replace n1 := n1.keep gy; replace n2 := n2.keep gy; replace r_a := r_a.keep gy; replace r_b := r_b.keep gy; replace r_c := r_c.keep gy; replace r_u := r_u.keep gy; replace r_m := r_m.keep gy; replace r_k := r_k.keep gy; replace r_u2 := r_u2.keep gy; replace r_v := r_v.keep gy; replace r_x := r_x.keep gy; replace r_v2 := r_v2.keep gy; replace r_a2 := r_a2.keep gy; replace r_a3 := r_a3.keep gy; replace G := gb_none G gy; clear gy)
              | (go_at_call 23; (with_reducible refine (pLe_any A_a A_b La c_a Lb c_b a b _ r_a r_b Ma.out Mb.out (by omega) (by omega)).mono ?_); rintro e y ⟨he, gy⟩; rw [E8.out] at he; subst he; replace n0 := n0.keep gy; replace n1 := n1.keep gy; replace n2 := n2.keep gy; replace r_a := r_a.keep gy; replace r_b := r_b.keep gy; replace r_c := r_c.keep gy; replace r_u := r_u.keep gy; replace r_m := r_m.keep gy; replace r_k := r_k.keep gy; replace r_u2 := r_u2.keep gy; replace r_v := r_v.keep gy; replace r_x := r_x.keep gy; replace r_v2 := r_v2.keep gy; replace r_a2 := r_a2.keep gy; replace r_a3 := r_a3.keep gy; replace G := gb_none G gy; clear gy)
              | (go_at_call 19; (with_reducible refine (pMinus_any A_m A_a Lm c_m La c_a m a _ r_m r_a Mm.out Ma.out (by omega) (by omega) h_a).mono ?_); rintro e y hR; obtain ⟨A_z, c_z, rfl, r_z, h_z, gy⟩ := hR.n E9.out; replace n0 := n0.keep gy; replace n1 := n1.keep gy; replace n2 := n2.keep gy; replace r_a := r_a.keep gy; replace r_b := r_b.keep gy; replace r_c := r_c.keep gy; replace r_u := r_u.keep gy; replace r_m := r_m.keep gy; replace r_k := r_k.keep gy; replace r_u2 := r_u2.keep gy; replace r_v := r_v.keep gy; replace r_x := r_x.keep gy; replace r_v2 := r_v2.keep gy; replace r_a2 := r_a2.keep gy; replace r_a3 := r_a3.keep gy; replace G := gb_none G gy; clear gy)
              | (go_at_call 9; (with_reducible refine (awake_any _).mono ?_); rintro e y ⟨rfl, gy⟩; replace G := gb_none G gy)
              )
          all_goals
            go_ret
            exact ⟨rfl, gb_below G (Nat.le_refl _)⟩
        · go_wp2_with (first
              | (go_at_call 24; (with_reducible refine (make_any a0 len0 cap0 b0 _ n0 (by omega)).mono ?_); rintro e y hR; rw [Ha.out] at hR; obtain ⟨A_a, c_a, rfl, r_a, h_a, gy⟩ := hR.n HLa.out; replace n0 := n0.keep gy; replace n1 := n1.keep gy; replace n2 := n2.keep gy; replace G := gb_none G gy; clear gy)
              | (go_at_call 24; (with_reducible refine (make_any a1 len1 cap1 b1 _ n1 (by omega)).mono ?_); rintro e y hR; rw [Hb.out] at hR; obtain ⟨A_b, c_b, rfl, r_b, h_b, gy⟩ := hR.n HLb.out; replace n0 := n0.keep gy; replace n1 := n1.keep gy; replace n2 := n2.keep gy; replace r_a := r_a.keep gy; replace G := gb_none G gy; clear gy)
              | (go_at_call 24; (with_reducible refine (make_any a2 len2 cap2 b2 _ n2 (by omega)).mono ?_); rintro e y hR; rw [Hc.out] at hR; obtain ⟨A_c, c_c, rfl, r_c, h_c, gy⟩ := hR.n HLc.out; replace n0 := n0.keep gy; replace n1 := n1.keep gy; replace n2 := n2.keep gy; replace r_a := r_a.keep gy; replace r_b := r_b.keep gy; replace G := gb_none G gy; clear gy)
              | (go_at_call 17; (with_reducible refine (pUnion_any A_a A_b La c_a Lb c_b a b _ r_a r_b Ma.out Mb.out (by omega) (by omega) h_b).mono ?_); rintro e y hR; rw [Hu.out] at hR; obtain ⟨A_u, c_u, rfl, r_u, h_u, gy⟩ := hR.n HLu.out; replace n0 := n0.keep gy; replace n1 := n1.keep gy; replace n2 := n2.keep gy; replace r_a := r_a.keep gy; replace r_b := r_b.keep gy; replace r_c := r_c.keep gy; replace G := gb_none G gy; clear gy)
              | (go_at_call 19; (with_reducible refine (pMinus_any A_a A_b La c_a Lb c_b a b _ r_a r_b Ma.out Mb.out (by omega) (by omega) h_b).mono ?_); rintro e y hR; rw [Hm.out] at hR; obtain ⟨A_m, c_m, rfl, r_m, h_m, gy⟩ := hR.n HLm.out; replace n0 := n0.keep gy; replace n1 := n1.keep gy; replace n2 := n2.keep gy; replace r_a := r_a.keep gy; replace r_b := r_b.keep gy; replace r_c := r_c.keep gy; replace r_u := r_u.keep gy; replace G := gb_none G gy; clear gy)
              | (go_at_call 19; (with_reducible refine (pMinus_any A_a A_m La c_a Lm c_m a m _ r_a r_m Ma.out Mm.out (by omega) (by omega) h_m).mono ?_); rintro e y hR; rw [Hk.out] at hR; obtain ⟨A_k, c_k, rfl, r_k, h_k, gy⟩ := hR.n HLk.out; replace n0 := n0.keep gy; replace n1 := n1.keep gy; replace n2 := n2.keep gy; replace r_a := r_a.keep gy; replace r_b := r_b.keep gy; replace r_c := r_c.keep gy; replace r_u := r_u.keep gy; replace r_m := r_m.keep gy; replace G := gb_none G gy; clear gy)
              | (go_at_call 17; (with_reducible refine (pUnion_any A_b A_a Lb c_b La c_a b a _ r_b r_a Mb.out Ma.out (by omega) (by omega) h_a).mono ?_); rintro e y hR; rw [E1.out] at hR; obtain ⟨A_u2, c_u2, rfl, r_u2, h_u2, gy⟩ := hR.n HLu.out; replace n0 := n0.keep gy; replace n1 := n1.keep gy; replace n2 := n2.keep gy; replace r_a := r_a.keep gy; replace r_b := r_b.keep gy; replace r_c := r_c.keep gy; replace r_u := r_u.keep gy; replace r_m := r_m.keep gy; replace r_k := r_k.keep gy; replace G := gb_none G gy; clear gy)
              | (go_at_call 12; (with_reducible refine (same_yes A_u A_u2 Lu c_u Lu c_u2 u u _ r_u r_u2 rfl (by omega) (by omega)).mono ?_); rintro e y ⟨rfl, gy⟩; replace n0 := n0.keep gy; replace n1 := n1.keep gy; replace n2 := n2.keep gy; replace r_a := r_a.keep gy; replace r_b := r_b.keep gy; replace r_c := r_c.keep gy; replace r_u := r_u.keep gy; replace r_m := r_m.keep gy; replace r_k := r_k.keep gy; replace r_u2 := r_u2.keep gy; replace G := gb_none G gy; clear gy)
              | (go_at_call 17; (with_reducible refine (pUnion_any A_u A_c Lu c_u Lc c_c u c _ r_u r_c Mu.out Mc.out (by omega) (by omega) h_c).mono ?_); rintro e y hR; rw [Hv.out] at hR; obtain ⟨A_v, c_v, rfl, r_v, h_v, gy⟩ := hR.n HLv.out; replace n0 := n0.keep gy; replace n1 := n1.keep gy; replace n2 := n2.keep gy; replace r_a := r_a.keep gy; replace r_b := r_b.keep gy; replace r_c := r_c.keep gy; replace r_u := r_u.keep gy; replace r_m := r_m.keep gy; replace r_k := r_k.keep gy; replace r_u2 := r_u2.keep gy; replace G := gb_none G gy; clear gy)
              | (go_at_call 17; (with_reducible refine (pUnion_any A_b A_c Lb c_b Lc c_c b c _ r_b r_c Mb.out Mc.out (by omega) (by omega) h_c).mono ?_); rintro e y hR; rw [Hx.out] at hR; obtain ⟨A_x, c_x, rfl, r_x, h_x, gy⟩ := hR.n HLx.out; replace n0 := n0.keep gy; replace n1 := n1.keep gy; replace n2 := n2.keep gy; replace r_a := r_a.keep gy; replace r_b := r_b.keep gy; replace r_c := r_c.keep gy; replace r_u := r_u.keep gy; replace r_m := r_m.keep gy; replace r_k := r_k.keep gy; replace r_u2 := r_u2.keep gy; replace r_v := r_v.keep gy; replace G := gb_none G gy; clear gy)
              | (go_at_call 17; (with_reducible refine (pUnion_any A_a A_x La c_a Lx c_x a x _ r_a r_x Ma.out Mx.out (by omega) (by omega) h_x).mono ?_); rintro e y hR; rw [E2.out] at hR; obtain ⟨A_v2, c_v2, rfl, r_v2, h_v2, gy⟩ := hR.n HLv.out; replace n0 := n0.keep gy; replace n1 := n1.keep gy; replace n2 := n2.keep gy; replace r_a := r_a.keep gy; replace r_b := r_b.keep gy; replace r_c := r_c.keep gy; replace r_u := r_u.keep gy; replace r_m := r_m.keep gy; replace r_k := r_k.keep gy; replace r_u2 := r_u2.keep gy; replace r_v := r_v.keep gy; replace r_x := r_x.keep gy; replace G := gb_none G gy; clear gy)
              | (go_at_call 12; (with_reducible refine (same_yes A_v A_v2 Lv c_v Lv c_v2 v v _ r_v r_v2 rfl (by omega) (by omega)).mono ?_); rintro e y ⟨rfl, gy⟩; replace n0 := n0.keep gy; replace n1 := n1.keep gy; replace n2 := n2.keep gy; replace r_a := r_a.keep gy; replace r_b := r_b.keep gy; replace r_c := r_c.keep gy; replace r_u := r_u.keep gy; replace r_m := r_m.keep gy; replace r_k := r_k.keep gy; replace r_u2 := r_u2.keep gy; replace r_v := r_v.keep gy; replace r_x := r_x.keep gy; replace r_v2 := r_v2.keep gy; replace G := gb_none G gy; clear gy)
              | (go_at_call 17; (with_reducible refine (pUnion_any A_a A_a La c_a La c_a a a _ r_a r_a Ma.out Ma.out (by omega) (by omega) h_a).mono ?_); rintro e y hR; rw [E3.out] at hR; obtain ⟨A_a2, c_a2, rfl, r_a2, h_a2, gy⟩ := hR.n HLa.out; replace n0 := n0.keep gy; replace n1 := n1.keep gy; replace n2 := n2.keep gy; replace r_a := r_a.keep gy; replace r_b := r_b.keep gy; replace r_c := r_c.keep gy; replace r_u := r_u.keep gy; replace r_m := r_m.keep gy; replace r_k := r_k.keep gy; replace r_u2 := r_u2.keep gy; replace r_v := r_v.keep gy; replace r_x := r_x.keep gy; replace r_v2 := r_v2.keep gy; replace G := gb_none G gy; clear gy)
              | (go_at_call 12; (with_reducible refine (same_yes A_a2 A_a La c_a2 La c_a a a _ r_a2 r_a rfl (by omega) (by omega)).mono ?_); rintro e y ⟨rfl, gy⟩; replace n0 := n0.keep gy; replace n1 := n1.keep gy; replace n2 := n2.keep gy; replace r_a := r_a.keep gy; replace r_b := r_b.keep gy; replace r_c := r_c.keep gy; replace r_u := r_u.keep gy; replace r_m := r_m.keep gy; replace r_k := r_k.keep gy; replace r_u2 := r_u2.keep gy; replace r_v := r_v.keep gy; replace r_x := r_x.keep gy; replace r_v2 := r_v2.keep gy; replace r_a2 := r_a2.keep gy; replace G := gb_none G gy; clear gy)
              | (go_at_call 17; (with_reducible refine (pUnion_any A_m A_k Lm c_m Lk c_k m k _ r_m r_k Mm.out Mk.out (by omega) (by omega) h_k).mono ?_); rintro e y hR; rw [E4.out] at hR; obtain ⟨A_a3, c_a3, rfl, r_a3, h_a3, gy⟩ := hR.n HLa.out; replace n0 := n0.keep gy; replace n1 := n1.keep gy; replace n2 := n2.keep gy; replace r_a := r_a.keep gy; replace r_b := r_b.keep gy; replace r_c := r_c.keep gy; replace r_u := r_u.keep gy; replace r_m := r_m.keep gy; replace r_k := r_k.keep gy; replace r_u2 := r_u2.keep gy; replace r_v := r_v.keep gy; replace r_x := r_x.keep gy; replace r_v2 := r_v2.keep gy; replace r_a2 := r_a2.keep gy; replace G := gb_none G gy; clear gy)
              | (go_at_call 12; (with_reducible refine (same_yes A_a3 A_a La c_a3 La c_a a a _ r_a3 r_a rfl (by omega) (by omega)).mono ?_); rintro e y ⟨rfl, gy⟩; replace n0 := n0.keep gy; replace n1 := n1.keep gy; replace n2 := n2.keep gy; replace r_a := r_a.keep gy; replace r_b := r_b.keep gy; replace r_c := r_c.keep gy; replace r_u := r_u.keep gy; replace r_m := r_m.keep gy; replace r_k := r_k.keep gy; replace r_u2 := r_u2.keep gy; replace r_v := r_v.keep gy; replace r_x := r_x.keep gy; replace r_v2 := r_v2.keep gy; replace r_a2 := r_a2.keep gy; replace r_a3 := r_a3.keep gy; replace G := gb_none G gy; clear gy)
              | (go_at_call 23; (with_reducible refine (pLe_any A_k A_b Lk c_k Lb c_b k b _ r_k r_b Mk.out Mb.out (by omega) (by omega)).mono ?_); rintro e y ⟨he, gy⟩; rw [E5.out] at he; subst he; replace n0 := n0.keep gy; replace n1 := n1.keep gy; replace n2 := n2.keep gy; replace r_a := r_a.keep gy; replace r_b := r_b.keep gy; replace r_c := r_c.keep gy; replace r_u := r_u.keep gy; replace r_m := r_m.keep gy; replace r_k := r_k.keep gy; replace r_u2 := r_u2.keep gy; replace r_v := r_v.keep gy; replace r_x := r_x.keep gy; replace r_v2 := r_v2.keep gy; replace r_a2 := r_a2.keep gy; replace r_a3 := r_a3.keep gy; replace G := gb_none G gy; clear gy)
              | (go_at_call 23; (with_reducible refine (pLe_any A_m A_a Lm c_m La c_a m a _ r_m r_a Mm.out Ma.out (by omega) (by omega)).mono ?_); rintro e y ⟨he, gy⟩; rw [E6.out] at he; subst he; replace n0 := n0.keep gy; replace n1 := n1.keep gy; replace n2 := n2.keep gy; replace r_a := r_a.keep gy; replace r_b := r_b.keep gy; replace r_c := r_c.keep gy; replace r_u := r_u.keep gy; replace r_m := r_m.keep gy; replace r_k := r_k.keep gy; replace r_u2 := r_u2.keep gy; replace r_v := r_v.keep gy; replace r_x := r_x.keep gy; replace r_v2 := r_v2.keep gy; replace r_a2 := r_a2.keep gy; replace r_a3 := r_a3.keep gy; replace G := gb_none G gy; clear gy)
              | (go_at_call 23; (with_reducible refine (pLe_any A_a A_u La c_a Lu c_u a u _ r_a r_u Ma.out Mu.out (by omega) (by omega)).mono ?_); rintro e y ⟨he, gy⟩; rw [E7.out] at he; subst he; replace n0 := n0.keep gy; replace n1 := n1.keep gy; replace n2 := n2.keep gy; replace r_a := r_a.keep gy; replace r_b := r_b.keep gy; replace r_c := r_c.keep gy; replace r_u := r_u.keep gy; replace r_m := r_m.keep gy; replace r_k := r_k.keep gy; replace r_u2 := r_u2.keep gy; replace r_v := r_v.keep gy; replace r_x := r_x.keep gy; replace r_v2 := r_v2.keep gy; replace r_a2 := r_a2.keep gy; replace r_a3 := r_a3.keep gy; replace G := gb_none G gy; clear gy)
              | (go_at_call 23; (with_reducible refine (pLe_any A_a A_b La c_a Lb c_b a b _ r_a r_b Ma.out Mb.out (by omega) (by omega)).mono ?_); rintro e y ⟨he, gy⟩; rw [E8.out] at he; subst he; replace n0 := n0.keep gy; replace n1 := n1.keep gy; replace n2 := n2.keep gy; replace r_a := r_a.keep gy; replace r_b := r_b.keep gy; replace r_c := r_c.keep gy; replace r_u := r_u.keep gy; replace r_m := r_m.keep gy; replace r_k := r_k.keep gy; replace r_u2 := r_u2.keep gy; replace r_v := r_v.keep gy; replace r_x := r_x.keep gy; replace r_v2 := r_v2.keep gy; replace r_a2 := r_a2.keep gy; replace r_a3 := r_a3.keep gy; replace G := gb_none G gy; clear gy)
              | (go_at_call 19; (with_reducible refine (pMinus_any A_m A_a Lm c_m La c_a m a _ r_m r_a Mm.out Ma.out (by omega) (by omega) h_a).mono ?_); rintro e y hR; obtain ⟨A_z, c_z, rfl, r_z, h_z, gy⟩ := hR.n E9.out; replace n0 := n0.keep gy; replace n1 := n1.keep gy; replace n2 := n2.keep gy; replace r_a := r_a.keep gy; replace r_b := r_b.keep gy; replace r_c := r_c.keep gy; replace r_u := r_u.keep gy; replace r_m := r_m.keep gy; replace r_k := r_k.keep gy; replace r_u2 := r_u2.keep gy; replace r_v := r_v.keep gy; replace r_x := r_x.keep gy; replace r_v2 := r_v2.keep gy; replace r_a2 := r_a2.keep gy; replace r_a3 := r_a3.keep gy; replace G := gb_none G gy; clear gy)
              | (go_at_call 9; (with_reducible refine (awake_any _).mono ?_); rintro e y ⟨rfl, gy⟩; replace G := gb_none G gy)
              )
          all_goals
            go_ret
            exact ⟨rfl, gb_below G (Nat.le_refl _)⟩

set_option maxRecDepth 100000 in
theorem lifted (os : Os) (started : os.Started) (H : Type) (enc : TypeId × Value → H) :
    ReturnsInHanded {} Try.checked os 5 .any (Rows.dotsLawsSpec.pre6 enc Try.prog Try.f5 Rows.dotsLawsRow.domain false) (Rows.dotsLawsSpec.post enc Try.prog Try.f5 false true false false) := by
  refine returnsInHanded_of_change (C := Try.checked) own started (by kernel_rfl) Try.func5
    (ChangeSpec.witness6 (enc := enc) (C := Try.checked) false ⟨#[], #[.slice none 0 0, .slice none 0 0, .slice none 0 0], []⟩ 8 (by kernel_rfl) (by kernel_rfl) (by kernel_rfl) (by kernel_rfl)) ?_
  intro W base args ds gs before hval0 hW hcnd _
  have hval : ∀ (j : Nat) t v, Try.f5.params[j]? = some t → args[j]? = some v → Value.okWide Try.prog W .any base t v := hval0
  have hW' := hW
  obtain ⟨p, q, hA0, hV, rfl, hfz, hnd⟩ := hW
  have hA : DataW.TrodAll enc Try.prog W 0 (fun _ => true) true Try.f5.params.toList args.toList ds p := hA0
  rw [Try.params5] at hA hval
  obtain ⟨v0, vs0, d0, ds0, p0, q0, hargs, rfl, rfl, h0, r0⟩ := trodAll_cons hA
  obtain ⟨v1, vs1, d1, ds1, p1, q1, rfl, rfl, rfl, h1, r1⟩ := trodAll_cons r0
  obtain ⟨v2, vs2, d2, ds2, p2, q2, rfl, rfl, rfl, h2, r2⟩ := trodAll_cons r1
  obtain ⟨rfl, rfl, rfl⟩ := trodAll_nil r2
  obtain rfl : args = #[v0, v1, v2] := by cases args; simp_all
  obtain ⟨rfl, rfl⟩ := trodVars_none hV
  obtain ⟨a0, len0, cap0, rfl⟩ := okWide_slice Try.underlying35 (hval 0 35 v0 rfl rfl)
  have k0 := h0
  have lt0 : ∀ x ∈ p0, x.block < W.heap.size := by obtain ⟨m, hm⟩ := k0; exact DataW.trod_lt m _ _ _ hm
  obtain ⟨z0, w0⟩ : ∃ zs, IsRow .u8 W a0 len0 cap0 zs := by
    obtain ⟨fuel, hf⟩ := h0
    rcases open_ints Try.underlying35 Try.underlying5 (by kernel_rfl) hf with ⟨hcs, _⟩ | ⟨x, l, c, zs, hcs, _, hl, hm, hz, _, hcell, hwz⟩
    · simp [Value.cells] at hcs
      obtain ⟨rfl, rfl, rfl⟩ := hcs
      exact ⟨[], .inl ⟨rfl, rfl, rfl, rfl⟩⟩
    · simp [Value.cells] at hcs
      obtain ⟨rfl, rfl, rfl⟩ := hcs
      exact ⟨zs, .inr ⟨_, rfl, hl, hm, by simpa using hz, hcell, hwz⟩⟩
  obtain ⟨a1, len1, cap1, rfl⟩ := okWide_slice Try.underlying35 (hval 1 35 v1 rfl rfl)
  have k1 := h1
  have lt1 : ∀ x ∈ p1, x.block < W.heap.size := by obtain ⟨m, hm⟩ := k1; exact DataW.trod_lt m _ _ _ hm
  obtain ⟨z1, w1⟩ : ∃ zs, IsRow .u8 W a1 len1 cap1 zs := by
    obtain ⟨fuel, hf⟩ := h1
    rcases open_ints Try.underlying35 Try.underlying5 (by kernel_rfl) hf with ⟨hcs, _⟩ | ⟨x, l, c, zs, hcs, _, hl, hm, hz, _, hcell, hwz⟩
    · simp [Value.cells] at hcs
      obtain ⟨rfl, rfl, rfl⟩ := hcs
      exact ⟨[], .inl ⟨rfl, rfl, rfl, rfl⟩⟩
    · simp [Value.cells] at hcs
      obtain ⟨rfl, rfl, rfl⟩ := hcs
      exact ⟨zs, .inr ⟨_, rfl, hl, hm, by simpa using hz, hcell, hwz⟩⟩
  obtain ⟨a2, len2, cap2, rfl⟩ := okWide_slice Try.underlying35 (hval 2 35 v2 rfl rfl)
  have k2 := h2
  have lt2 : ∀ x ∈ p2, x.block < W.heap.size := by obtain ⟨m, hm⟩ := k2; exact DataW.trod_lt m _ _ _ hm
  obtain ⟨z2, w2⟩ : ∃ zs, IsRow .u8 W a2 len2 cap2 zs := by
    obtain ⟨fuel, hf⟩ := h2
    rcases open_ints Try.underlying35 Try.underlying5 (by kernel_rfl) hf with ⟨hcs, _⟩ | ⟨x, l, c, zs, hcs, _, hl, hm, hz, _, hcell, hwz⟩
    · simp [Value.cells] at hcs
      obtain ⟨rfl, rfl, rfl⟩ := hcs
      exact ⟨[], .inl ⟨rfl, rfl, rfl, rfl⟩⟩
    · simp [Value.cells] at hcs
      obtain ⟨rfl, rfl, rfl⟩ := hcs
      exact ⟨zs, .inr ⟨_, rfl, hl, hm, by simpa using hz, hcell, hwz⟩⟩
  clear hA0 hval0
  refine (walk a0 len0 cap0 z0 a1 len1 cap1 z1 a2 len2 cap2 z2 W w0 w1 w2).mono fun e W' ⟨he, bel⟩ => ?_
  subst he
  exact ⟨_, rfl, _, _, _, [], _, [], hW', trodAll_mk1 (shut_bool Try.underlying4 _), (trodAll_cons_mk (Below.trod laidOut (by kernel_rfl) (of_decide_eq_true (by kernel_rfl)) k0 bel lt0) (trodAll_cons_mk (Below.trod laidOut (by kernel_rfl) (of_decide_eq_true (by kernel_rfl)) k1 bel lt1) (trodAll_cons_mk (Below.trod laidOut (by kernel_rfl) (of_decide_eq_true (by kernel_rfl)) k2 bel lt2) trodAll_mk0))), rfl, bel.frame _, fun h => by cases h⟩

theorem over : Rows.dotsLawsRow.holds Try.pinned (OpenSpec.ofChange Rows.dotsLawsSpec) :=
  OpenClaim.holds_of_wide 5 Try.f5 rfl rfl rfl rfl rfl rfl rfl ⟨rfl, rfl, rfl, rfl, rfl⟩ rfl rfl rfl rfl rfl (by kernel_rfl) Try.func5 (by kernel_rfl)
    (of_decide_eq_true (by kernel_rfl)) (by unfold Func.isWrapper; first | (rw [if_pos (by decide +kernel)]; kernel_rfl) | (rw [if_neg (by decide +kernel)]; exact ⟨rfl, rfl⟩))
    (fun os started H enc _ => lifted os started H enc)

theorem proved : Rows.DotsLawsSaid := over
#print axioms proved
end Go.Proofs.Ytkibojoochlggaa.dotsLaws
