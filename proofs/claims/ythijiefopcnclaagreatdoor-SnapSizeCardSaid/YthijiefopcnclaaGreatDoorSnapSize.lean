/-
  Proved: whatever values of its parameters' types it is called with, deaddroplaw13.SnapSize returns true, and each argument reads behind the call as it read before; the listed package-level variables being what the program's own text lays (the card ties them).
  Conditions: none but those of the card itself.
-/
import Derived.Test.YthijiefopcnclaaGreatDoorCards
import Derived.Test.YthijiefopcnclaaGreatDoorTie
import Derived.WalkKit
import Derived.ProofKit
import Derived.OpenShut
import Derived.ShutString
import Derived.Below
import Derived.ChangeOld
import Derived.Deep.DeepHandedRow
import Derived.LaidSub
import Derived.LaidHandle
import Derived.LaidLaws
import Derived.RowKitTokens
import Derived.Stop.LaidTwo
import Derived.Test.YthijiefopcnclaaGreatDoorSnLaw
import Derived.Test.YthijiefopcnclaaGreatDoorTdA
import Derived.Test.YthijiefopcnclaaGreatDoorToldM
import Derived.Deep.DeepCutAuto

namespace Go.Proofs.YthijiefopcnclaaGreatDoor.snapSize
open Go.ChangeShapes Go.WideShapes Go.ChangeAt Go.RowKit
open Go.ChangeMaps (open_string shut_string)
open Go.Proofs.YthijiefopcnclaaGreatDoor.Mm Go.Proofs.YthijiefopcnclaaGreatDoor.Dt Go.Proofs.YthijiefopcnclaaGreatDoor.Td Go.Proofs.YthijiefopcnclaaGreatDoor.Vw Go.Proofs.YthijiefopcnclaaGreatDoor
set_option linter.unusedVariables false

theorem own : ownKnob Tryz.prog.godebug = none := by kernel_rfl
theorem laidOut : laidOutB Tryz.prog = true := by kernel_rfl
/-- What the walk is told of a slice of integers that came in. -/
def IsRow (k : IntKind) (w : World) (a : Option Addr) (len cap : Nat) (zs : List Int) : Prop :=
  (a = none ∧ len = 0 ∧ cap = 0 ∧ zs = []) ∨
  ∃ x, a = some x ∧ len ≤ cap ∧ cap ≤ maxLen ∧ zs.length = cap ∧ (∀ i, i < zs.length → w.cell? (x.add i) = some (.int k (zs.getD i 0))) ∧ ∀ n ∈ zs, (Lit.int k n).wf = true

attribute [local go_sem] Td.upon_value Td.upon_skip Td.upon_enter Td.upon_row Td.look_tmp Td.look_const Td.look_func Td.look_global
theorem sizeF_append : ∀ a b : List Fc, sizeF (a ++ b) = sizeF a + sizeF b
  | [], b => by simp [sizeF]
  | x :: a, b => by rw [List.cons_append, sizeF, sizeF, sizeF_append a b]; omega
theorem sizeF_next {l : List Fc} {k : Nat} {x : Fc} (h : l[k]? = some x) : sizeF (l.take (k + 1)) = sizeF (l.take k) + 51 + x.key.size + x.item.size := by
  rw [List.take_add_one, h, sizeF_append]
  show _ + (51 + x.key.size + x.item.size + 0) = _
  omega
theorem sizeF_take (l : List Fc) (k : Nat) : sizeF (l.take k) ≤ sizeF l := by
  have h := sizeF_append (l.take k) (l.drop k)
  rw [List.take_append_drop] at h
  omega
theorem sizeF_le : ∀ l : List Fc, (∀ x ∈ l, RightF x) → sizeF l ≤ 291 * l.length
  | [], _ => by simp [sizeF]
  | x :: l, h => by
    have h1 := sizeF_le l fun y hy => h y (by simp [hy])
    have h2 := h x (by simp)
    unfold RightF at h2
    rw [sizeF, List.length_cons]; omega
theorem facts_short {s : St} (h : MayS s) : sizeF s.facts ≤ 120000 := by
  have h1 := sizeF_le s.facts fun x hx => (h.2.2.1 x hx).1
  have h2 := h.2.1
  omega
theorem seen_puts {s : St} (h : Puts s) : Puts ⟨s.seen, []⟩ := ⟨⟨h.1.1, (by simp), fun f hf => (by cases hf), List.Pairwise.nil⟩, h.2⟩

set_option maxHeartbeats 40000000 in
set_option maxRecDepth 100000 in
theorem walk (a0 : Option Addr) (len0 cap0 : Nat) (z0 : List Int) (w : World) (w0 : IsRow .u8 w a0 len0 cap0 z0) (hT : w.cell? ⟨0, 0, none⟩ = some (.iface 155 (.agg #[.pointer (some ⟨2, 53, none⟩)]))) :
    Calls Tryz.prog 5 #[.slice a0 len0 cap0] w fun e w' => e = .returned (.bool true) ∧ Below w.heap.size w w' := by
  obtain ⟨hnl0, _, _⟩ := nl_of_row w0
  obtain ⟨s, hsd0⟩ : ∃ s, makeK (z0.take len0) (min (len0 / 2) 40) = s := ⟨_, rfl⟩
  have HPu : Hid (Puts s) := by rw [← hsd0]; exact make_puts _ _ (by omega)
  have HLens : Hid (s.seen.length ≤ 320 ∧ s.facts.length ≤ 320) := by rw [← hsd0]; exact make_short _ _ (by omega)
  have HLow : Hid (Low s 40) := by rw [← hsd0]; exact (makeK_low _ _).more (Nat.min_le_right _ _)
  have HM : Hid (Calls Tryz.prog 16 #[.slice a0 len0 cap0] w (States s w)) := by rw [← hsd0]; exact make_any a0 len0 cap0 _ w hnl0
  have HT : Hid (ErrT w) := hT
  have HAw : Hid (∀ W, w.grownBy W none → Calls Tryz.prog 8 #[] W fun e w' => e = .returned (.bool true) ∧ W.grownBy w' none) := fun W hW => awake13_any W (HT.out.keep hW (by simp))
  clear hnl0 hsd0 w0 hT
  go_enter Tryz.func5, Tryz.ntmps5
  go_upto_region 1 with fail
  go_wp2_with fail
  refine HM.out.mono ?_
  rintro e w1 ⟨A, n, c, B, m, d, rfl, hs, hc, hd, g1⟩
  go_upto_region 2 with fail
  obtain ⟨hb, hhb⟩ : ∃ hb, w1.heap.size = hb := ⟨_, rfl⟩
  rw [hhb]
  refine Td.named (fun W => w.grownBy W none ∧ Row W hb 25 #[.slice A n c, .slice B m d] ∧ SL W A n B m s) ⟨gb_alloc g1 _, by rw [← hhb]; exact Row.new _ _ _, hs.keep (gb_alloc (gb_refl _ _) _)⟩ ?_
  rintro W1 ⟨G1, hrow, hs1⟩
  have HG1 := Lib.hid G1
  have HSc : Hid (∀ W, W1.grownBy W none → W.cell? ⟨hb, 0, none⟩ = some (.slice A n c) ∧ W.cell? ⟨hb, 1, none⟩ = some (.slice B m d) ∧ SL W A n B m s) := fun W hW => ⟨(hrow.kept hW (by simp)).at_ (i := 0) rfl, (hrow.kept hW (by simp)).at_ (i := 1) rfl, hs1.keep hW⟩
  have hlen : s.facts.length = m := hs1.2.1
  have hlen0 : s.seen.length = n := hs1.1.1
  have Hnm : Hid (n ≤ 320 ∧ m ≤ 320) := by have h3 := HLens.out; show _ ∧ _; omega
  have Hlen := Lib.hid hlen
  have Hlen0 := Lib.hid hlen0
  clear hhb hs hc hd g1 G1 hrow hs1 HM hlen hlen0
  have Hw1 : Hid (IntKind.i64.wrap (32 * (n : Int)) = 32 * (n : Int)) := by show _ = _; rw [IntKind.wrap_i64]; have := Hnm.out; omega
  have Hw2 : Hid (IntKind.i64.wrap (15 + 32 * (n : Int)) = 15 + 32 * (n : Int)) := by show _ = _; rw [IntKind.wrap_i64]; have := Hnm.out; omega
  have HsF : Hid (sizeF s.facts ≤ 120000) := facts_short HPu.out.1
  have HP1 : Hid (∀ W, W1.grownBy W none → Calls Tryz.prog 11 #[.agg #[.slice A n c, .slice B m d]] W fun e w' => e = .returned (.string (stW s).bytes) ∧ W.grownBy w' none) := fun W hW => putS_yes A B n c m d s W (HSc.out W hW).2.2 HPu.out (by have := Hnm.out; omega)
  have HP2 : Hid (∀ W, W1.grownBy W none → Calls Tryz.prog 11 #[.agg #[.slice A n c, .slice none 0 0]] W fun e w' => e = .returned (.string (stW ⟨s.seen, []⟩).bytes) ∧ W.grownBy w' none) := fun W hW => putS_yes A none n c 0 0 ⟨s.seen, []⟩ W ⟨(HSc.out W hW).2.2.1, FL.none _ _⟩ (seen_puts HPu.out) (by have := Hnm.out; omega)
  have hs1 : (stW s).bytes.size = 15 + 32 * n + sizeF s.facts := by rw [putB_size HPu.out, Hlen0.out]
  have hs2 : (stW ⟨s.seen, []⟩).bytes.size = 15 + 32 * n := by rw [putB_size (seen_puts HPu.out)]; show 15 + 32 * s.seen.length + 0 = _; rw [Nat.add_zero, Hlen0.out]
  generalize (stW s).bytes = Q1 at HP1 hs1
  generalize (stW ⟨s.seen, []⟩).bytes = Q2 at HP2 hs2
  have HS2 : Hid ((Q2.size : Int) = 15 + 32 * (n : Int)) := by show _ = _; omega
  have HQ1 := Lib.hid hs1
  clear hs1 hs2
  obtain ⟨z0, z1, _⟩ := HSc.out W1 (gb_refl _ _)
  have q1 := Hw1.out
  have q2 := Hw2.out
  go_wp2_with fail
  clear q1 q2 z0 z1
  go_loopw [4, 5] (fun nv iv wr => ∃ k : Nat, k ≤ m ∧ iv = .int .i64 k ∧ nv = .int .i64 (15 + 32 * (n : Int) + (sizeF (s.facts.take k) : Int)) ∧ W1.grownBy wr none) (fun _ iv _ => m - (intOf iv).toNat)
  case atStart => exact ⟨0, Nat.zero_le _, rfl, by rw [List.take_zero]; show Value.int .i64 (15 + 32 * (n : Int)) = Value.int .i64 (15 + 32 * (n : Int) + 0); rw [Int.add_zero], gb_refl _ _⟩
  case round =>
    obtain ⟨k, hk, rfl, rfl, hg⟩ := hrel
    obtain ⟨z0, z1, _⟩ := HSc.out wr hg
    by_cases hlt : k < m
    · have d1 : decide (k < m) = true := decide_eq_true hlt
      have d2 : decide ((k : Int) < (m : Int)) = true := decide_eq_true (by omega)
      obtain ⟨x, hx⟩ : ∃ x, s.facts[k]? = some x := ⟨_, List.getElem?_eq_getElem (by rw [Hlen.out]; exact hlt)⟩
      obtain ⟨gB, oB, eA, hgB, hcc⟩ := ((HSc.out wr hg).2.2.2).2 (by omega)
      subst eA
      have hc6 := hcc k x hx
      have HX : Hid (∀ W, wr.grownBy W none → At6 W gB (oB + k * 6) x) := fun W hW => hc6.keep hgB hW
      have HBk : Hid ((k : Int) < (m : Int)) := by show _ < _; omega
      have Hg := Lib.hid hg
      have Hlt := Lib.hid hlt
      have hR := (HPu.out.1.2.2.1 x (List.mem_of_getElem? hx)).1
      have hsz : sizeF (s.facts.take (k + 1)) = sizeF (s.facts.take k) + 51 + x.key.size + x.item.size := sizeF_next hx
      have hle : sizeF (s.facts.take k) ≤ sizeF s.facts := sizeF_take _ _
      obtain ⟨Q, hQ⟩ : ∃ Q : Int, 15 + 32 * (n : Int) + (sizeF (s.facts.take k) : Int) = Q := ⟨_, rfl⟩
      rw [hQ]
      have hb : 0 ≤ Q ∧ Q ≤ 200000 ∧ x.key.size ≤ 1000 ∧ x.item.size ≤ 1000 := by
        have h1 := HsF.out; have h2 := Hnm.out
        unfold RightF at hR
        omega
      have Ht1 : Hid (IntKind.i64.wrap (Q + 5) = Q + 5) := by show _ = _; rw [IntKind.wrap_i64]; omega
      have Ht2 : Hid (IntKind.i64.wrap (Q + 5 + 36) = Q + 5 + 36) := by show _ = _; rw [IntKind.wrap_i64]; omega
      have Ht3 : Hid (IntKind.i64.wrap (Q + 5 + 36 + 10) = Q + 5 + 36 + 10) := by show _ = _; rw [IntKind.wrap_i64]; omega
      have Ht4 : Hid (IntKind.i64.wrap (Q + 5 + 36 + 10 + (x.key.size : Int)) = Q + 5 + 36 + 10 + (x.key.size : Int)) := by show _ = _; rw [IntKind.wrap_i64]; omega
      have Ht5 : Hid (IntKind.i64.wrap (Q + 5 + 36 + 10 + (x.key.size : Int) + (x.item.size : Int)) = Q + 5 + 36 + 10 + (x.key.size : Int) + (x.item.size : Int)) := by show _ = _; rw [IntKind.wrap_i64]; omega
      have HQ : Hid (15 + 32 * (n : Int) + (sizeF (s.facts.take (k + 1)) : Int) = Q + 5 + 36 + 10 + (x.key.size : Int) + (x.item.size : Int)) := by show _ = _; omega
      have Ht0 : Hid (IntKind.i64.wrap ((k : Int) + 1) = ((k + 1 : Nat) : Int)) := by show _ = _; rw [IntKind.wrap_i64]; have := Hnm.out; omega
      clear hx hgB hcc hc6 hR hsz hle hQ hb hk hlt hg
      go_upto_region 6 with fail
      clear d1 d2 z0 z1
      apply Tm.wp_region_told_list (le := fun a b => a.grownBy b none) 20 [isV _, isV _, isV _, isV _, isV _, isV _, isV _, isV _, isV _, isV _, isV _, isV _, isV _, isV _, isV _, isV _, isV _, isV _, isV _, isV _]
      case hC => kernel_rfl
      case hlen => rfl
      case hn => rfl
      case hm => kernel_rfl
      case hB => kernel_rfl
      case ht => exact fun _ _ _ h k => gb_none h k
      case hw => exact gb_drew (gb_refl _ _)
      -- 0: more.go:15 move
      apply Tm.head_is
      · intro W f hW hE h0 K hK
        have e4 := h0 4 (by kernel_rfl)
        conv at e4 => rhs; whnf
        clear hE h0
        refine yes_of (want_free rfl) ?_
        go_simp; exact hK _ _ (gb_refl _ _) rfl
      -- 1: more.go:15 binOp
      apply Tm.head_is
      · intro W f hW hE h0 K hK
        have e21 : f 21 = _ := hE 0 21 _ rfl (by kernel_rfl)
        clear hE h0
        refine yes_of (want_free rfl) ?_
        have t1 := Ht1.out
        go_simp; exact hK _ _ (gb_refl _ _) rfl
      -- 2: more.go:15 binOp
      apply Tm.head_is
      · intro W f hW hE h0 K hK
        have e22 : f 22 = _ := hE 0 22 _ rfl (by kernel_rfl)
        clear hE h0
        refine yes_of (want_free rfl) ?_
        have t1 := Ht2.out
        go_simp; exact hK _ _ (gb_refl _ _) rfl
      -- 3: more.go:15 binOp
      apply Tm.head_is
      · intro W f hW hE h0 K hK
        have e23 : f 23 = _ := hE 0 23 _ rfl (by kernel_rfl)
        clear hE h0
        refine yes_of (want_free rfl) ?_
        have t1 := Ht3.out
        go_simp; exact hK _ _ (gb_refl _ _) rfl
      -- 4: more.go:15 fieldAddr
      apply Tm.head_is
      · intro W f hW hE h0 K hK
        have e3 := h0 3 (by kernel_rfl)
        conv at e3 => rhs; whnf
        clear hE h0
        refine yes_of (want_free rfl) ?_
        go_simp; exact hK _ _ (gb_refl _ _) rfl
      -- 5: more.go:15 load
      apply Tm.head_is
      · intro W f hW hE h0 K hK
        have e25 : f 25 = _ := hE 0 25 _ rfl (by kernel_rfl)
        clear hE h0
        refine yes_of (want_free rfl) ?_
        obtain ⟨z0, z1, _⟩ := HSc.out W (gb_none Hg.out hW)
        go_simp; exact hK _ _ (gb_refl _ _) rfl
      -- 6: more.go:15 move
      apply Tm.head_is
      · intro W f hW hE h0 K hK
        have e5 := h0 5 (by kernel_rfl)
        conv at e5 => rhs; whnf
        clear hE h0
        refine yes_of (want_free rfl) ?_
        go_simp; exact hK _ _ (gb_refl _ _) rfl
      -- 7: more.go:15 indexAddr
      apply Tm.head_is
      · intro W f hW hE h0 K hK
        have e26 : f 26 = _ := hE 1 26 _ rfl (by kernel_rfl)
        have e27 : f 27 = _ := hE 0 27 _ rfl (by kernel_rfl)
        clear hE h0
        refine yes_of (want_free rfl) ?_
        have bk := HBk.out
        go_simp; exact hK _ _ (gb_refl _ _) rfl
      -- 8: more.go:15 fieldAddr
      apply Tm.head_is
      · intro W f hW hE h0 K hK
        have e28 : f 28 = _ := hE 0 28 _ rfl (by kernel_rfl)
        clear hE h0
        refine yes_of (want_free rfl) ?_
        go_simp; exact hK _ _ (gb_refl _ _) rfl
      -- 9: more.go:15 load
      apply Tm.head_is
      · intro W f hW hE h0 K hK
        have e29 : f 29 = _ := hE 0 29 _ rfl (by kernel_rfl)
        clear hE h0
        refine yes_of (want_free rfl) ?_
        obtain ⟨v0, v1, v2, v3, v4, v5⟩ := HX.out W hW
        go_simp; exact hK _ _ (gb_refl _ _) rfl
      -- 10: more.go:15 call
      apply Tm.head_is
      · intro W f hW hE h0 K hK
        have e30 : f 30 = _ := hE 0 30 _ rfl (by kernel_rfl)
        clear hE h0
        refine yes_of (want_free rfl) ?_
        go_simp; exact hK _ _ (gb_refl _ _) rfl
      -- 11: more.go:15 binOp
      apply Tm.head_is
      · intro W f hW hE h0 K hK
        have e24 : f 24 = _ := hE 7 24 _ rfl (by kernel_rfl)
        have e31 : f 31 = _ := hE 0 31 _ rfl (by kernel_rfl)
        clear hE h0
        refine yes_of (want_free rfl) ?_
        have t1 := Ht4.out
        go_simp; exact hK _ _ (gb_refl _ _) rfl
      -- 12: more.go:15 fieldAddr
      apply Tm.head_is
      · intro W f hW hE h0 K hK
        have e3 := h0 3 (by kernel_rfl)
        conv at e3 => rhs; whnf
        clear hE h0
        refine yes_of (want_free rfl) ?_
        go_simp; exact hK _ _ (gb_refl _ _) rfl
      -- 13: more.go:15 load
      apply Tm.head_is
      · intro W f hW hE h0 K hK
        have e33 : f 33 = _ := hE 0 33 _ rfl (by kernel_rfl)
        clear hE h0
        refine yes_of (want_free rfl) ?_
        obtain ⟨z0, z1, _⟩ := HSc.out W (gb_none Hg.out hW)
        go_simp; exact hK _ _ (gb_refl _ _) rfl
      -- 14: more.go:15 move
      apply Tm.head_is
      · intro W f hW hE h0 K hK
        have e5 := h0 5 (by kernel_rfl)
        conv at e5 => rhs; whnf
        clear hE h0
        refine yes_of (want_free rfl) ?_
        go_simp; exact hK _ _ (gb_refl _ _) rfl
      -- 15: more.go:15 indexAddr
      apply Tm.head_is
      · intro W f hW hE h0 K hK
        have e34 : f 34 = _ := hE 1 34 _ rfl (by kernel_rfl)
        have e35 : f 35 = _ := hE 0 35 _ rfl (by kernel_rfl)
        clear hE h0
        refine yes_of (want_free rfl) ?_
        have bk := HBk.out
        go_simp; exact hK _ _ (gb_refl _ _) rfl
      -- 16: more.go:15 fieldAddr
      apply Tm.head_is
      · intro W f hW hE h0 K hK
        have e36 : f 36 = _ := hE 0 36 _ rfl (by kernel_rfl)
        clear hE h0
        refine yes_of (want_free rfl) ?_
        go_simp; exact hK _ _ (gb_refl _ _) rfl
      -- 17: more.go:15 load
      apply Tm.head_is
      · intro W f hW hE h0 K hK
        have e37 : f 37 = _ := hE 0 37 _ rfl (by kernel_rfl)
        clear hE h0
        refine yes_of (want_free rfl) ?_
        obtain ⟨v0, v1, v2, v3, v4, v5⟩ := HX.out W hW
        go_simp; exact hK _ _ (gb_refl _ _) rfl
      -- 18: more.go:15 call
      apply Tm.head_is
      · intro W f hW hE h0 K hK
        have e38 : f 38 = _ := hE 0 38 _ rfl (by kernel_rfl)
        clear hE h0
        refine yes_of (want_free rfl) ?_
        go_simp; exact hK _ _ (gb_refl _ _) rfl
      -- 19: more.go:15 binOp
      apply Tm.head_is
      · intro W f hW hE h0 K hK
        have e32 : f 32 = _ := hE 7 32 _ rfl (by kernel_rfl)
        have e39 : f 39 = _ := hE 0 39 _ rfl (by kernel_rfl)
        clear hE h0
        refine yes_of (want_free rfl) ?_
        have t1 := Ht5.out
        go_simp; exact hK _ _ (gb_refl _ _) rfl
      intro W f hW hA
      simp only [List.take_succ_cons, List.take_zero, List.drop_succ_cons, List.drop_zero, lexIn, Act.put, List.setIfInBounds_toArray, List.set_cons_zero, List.set_cons_succ]
      have e40 : f 40 = _ := hA 0 (some 40) _ rfl
      rw [e40]
      clear hA
      have Hg9 := Lib.hid (gb_none Hg.out hW)
      have t1 := Ht0.out
      clear hW
      go_wp2_with fail
      go_roundw
      case rel => exact ⟨k + 1, by have := Hlt.out; omega, rfl, by rw [HQ.out], Hg9.out⟩
      case measure => simp [intOf]; have := Hlt.out; omega
    · obtain rfl : k = m := by omega
      have d1 : decide (k < k) = false := by simp
      have d2 : decide ((k : Int) < (k : Int)) = false := by simp
      obtain ⟨Q, hQ⟩ : ∃ Q : Int, 15 + 32 * (n : Int) + (sizeF (s.facts.take k) : Int) = Q := ⟨_, rfl⟩
      rw [hQ]
      have HS1 : Hid ((Q1.size : Int) = Q) := by
        show _ = _
        rw [← hQ, HQ1.out, List.take_of_length_le (by rw [Hlen.out]; exact Nat.le_refl _)]
        omega
      clear hlt hk hQ
      go_upto_region 7 with fail
      clear d1 d2
      go_upto_region 8 with fail
      obtain ⟨ht, hht⟩ : ∃ ht, wr.heap.size = ht := ⟨_, rfl⟩
      rw [hht]
      refine Td.named (fun W => W1.grownBy W none ∧ Row W ht 25 #[.slice A n c, .slice none 0 0]) ⟨gb_alloc hg _, by rw [← hht]; exact Row.new _ _ _⟩ ?_
      rintro W2 ⟨G2, hrow⟩
      have Hg2 := Lib.hid G2
      have HSt : Hid (∀ W, W2.grownBy W none → W.cell? ⟨ht, 0, none⟩ = some (.slice A n c) ∧ W.cell? ⟨ht, 1, none⟩ = some (.slice none 0 0)) := fun W hW => ⟨(hrow.kept hW (by simp)).at_ (i := 0) rfl, (hrow.kept hW (by simp)).at_ (i := 1) rfl⟩
      clear hht hg G2 hrow z0 z1
      apply wp_region_told (le := fun a b => a.grownBy b none) [isV _, isV _, isV _, isV _, isV _, isV _, isV _, isV _, isV _, isV _, isV _, isV _, isV _, isV _, isV _, isV _, isV _, isV _, isV _, isV _]
      case hn => rfl
      case hm => kernel_rfl
      case hB => kernel_rfl
      case ht => exact fun _ _ _ h k => gb_none h k
      case hw => exact gb_drew (gb_refl _ _)
      -- 0: more.go:18 load
      apply told_is
      · intro W f hW hE h0 K hK
        have e3 := h0 3 (by kernel_rfl)
        conv at e3 => rhs; whnf
        clear hE h0
        refine yes_of (want_free rfl) ?_
        obtain ⟨z0, z1, _⟩ := HSc.out W (gb_none Hg2.out hW)
        go_simp; exact hK _ _ (gb_refl _ _) rfl
      -- 1: more.go:18 call
      apply told_is
      · intro W f hW hE h0 K hK
        have e44 : f 44 = _ := hE 0 44 _ rfl (by kernel_rfl)
        clear hE h0
        refine yes_of (want_free rfl) ?_
        go_simp
        refine (HP1.out W (gb_none Hg2.out hW)).mono ?_
        rintro e w1' ⟨rfl, g'⟩
        exact ⟨_, rfl, hK _ _ g' rfl⟩
      -- 2: more.go:18 call
      apply told_is
      · intro W f hW hE h0 K hK
        have e45 : f 45 = _ := hE 0 45 _ rfl (by kernel_rfl)
        clear hE h0
        refine yes_of (want_free rfl) ?_
        have q1 := HS1.out
        go_simp; exact hK _ _ (gb_refl _ _) rfl
      -- 3: more.go:18 move
      apply told_is
      · intro W f hW hE h0 K hK
        have e4 := h0 4 (by kernel_rfl)
        conv at e4 => rhs; whnf
        clear hE h0
        refine yes_of (want_free rfl) ?_
        go_simp; exact hK _ _ (gb_refl _ _) rfl
      -- 4: more.go:18 binOp
      apply told_is
      · intro W f hW hE h0 K hK
        have e46 : f 46 = _ := hE 1 46 _ rfl (by kernel_rfl)
        have e47 : f 47 = _ := hE 0 47 _ rfl (by kernel_rfl)
        clear hE h0
        refine yes_of (want_free rfl) ?_
        go_simp; exact hK _ _ (gb_refl _ _) rfl
      -- 5: more.go:18 move
      apply told_is
      · intro W f hW hE h0 K hK
        have e48 : f 48 = _ := hE 0 48 _ rfl (by kernel_rfl)
        clear hE h0
        refine yes_of (want_free rfl) ?_
        go_simp; exact hK _ _ (gb_refl _ _) rfl
      -- 6: more.go:18 load
      apply told_is
      · intro W f hW hE h0 K hK
        have e6 := h0 6 (by kernel_rfl)
        conv at e6 => rhs; whnf
        have e49 : f 49 = _ := hE 0 49 _ rfl (by kernel_rfl)
        clear hE h0
        refine yes_of (want_yes rfl rfl e49) ?_
        obtain ⟨z0, z1⟩ := HSt.out W hW
        go_simp; exact hK _ _ (gb_refl _ _) rfl
      -- 7: more.go:18 call
      apply told_is
      · intro W f hW hE h0 K hK
        have e50 : f 50 = _ := hE 0 50 _ rfl (by kernel_rfl)
        have e49 : f 49 = _ := hE 1 49 _ rfl (by kernel_rfl)
        clear hE h0
        refine yes_of (want_yes rfl rfl e49) ?_
        go_simp
        refine (HP2.out W (gb_none Hg2.out hW)).mono ?_
        rintro e w1' ⟨rfl, g'⟩
        exact ⟨_, rfl, hK _ _ g' rfl⟩
      -- 8: more.go:18 call
      apply told_is
      · intro W f hW hE h0 K hK
        have e51 : f 51 = _ := hE 0 51 _ rfl (by kernel_rfl)
        have e49 : f 49 = _ := hE 2 49 _ rfl (by kernel_rfl)
        clear hE h0
        refine yes_of (want_yes rfl rfl e49) ?_
        have q1 := HS2.out
        go_simp; exact hK _ _ (gb_refl _ _) rfl
      -- 9: more.go:18 fieldAddr
      apply told_is
      · intro W f hW hE h0 K hK
        have e3 := h0 3 (by kernel_rfl)
        conv at e3 => rhs; whnf
        have e49 : f 49 = _ := hE 3 49 _ rfl (by kernel_rfl)
        clear hE h0
        refine yes_of (want_yes rfl rfl e49) ?_
        go_simp; exact hK _ _ (gb_refl _ _) rfl
      -- 10: more.go:18 load
      apply told_is
      · intro W f hW hE h0 K hK
        have e53 : f 53 = _ := hE 0 53 _ rfl (by kernel_rfl)
        have e49 : f 49 = _ := hE 4 49 _ rfl (by kernel_rfl)
        clear hE h0
        refine yes_of (want_yes rfl rfl e49) ?_
        obtain ⟨z0, z1, _⟩ := HSc.out W (gb_none Hg2.out hW)
        go_simp; exact hK _ _ (gb_refl _ _) rfl
      -- 11: more.go:18 call
      apply told_is
      · intro W f hW hE h0 K hK
        have e54 : f 54 = _ := hE 0 54 _ rfl (by kernel_rfl)
        have e49 : f 49 = _ := hE 5 49 _ rfl (by kernel_rfl)
        clear hE h0
        refine yes_of (want_yes rfl rfl e49) ?_
        go_simp; exact hK _ _ (gb_refl _ _) rfl
      -- 12: more.go:18 binOp
      apply told_is
      · intro W f hW hE h0 K hK
        have e55 : f 55 = _ := hE 0 55 _ rfl (by kernel_rfl)
        have e49 : f 49 = _ := hE 6 49 _ rfl (by kernel_rfl)
        clear hE h0
        refine yes_of (want_yes rfl rfl e49) ?_
        have q1 := Hw1.out
        go_simp; exact hK _ _ (gb_refl _ _) rfl
      -- 13: more.go:18 binOp
      apply told_is
      · intro W f hW hE h0 K hK
        have e56 : f 56 = _ := hE 0 56 _ rfl (by kernel_rfl)
        have e49 : f 49 = _ := hE 7 49 _ rfl (by kernel_rfl)
        clear hE h0
        refine yes_of (want_yes rfl rfl e49) ?_
        have q1 := Hw2.out
        go_simp; exact hK _ _ (gb_refl _ _) rfl
      -- 14: more.go:18 binOp
      apply told_is
      · intro W f hW hE h0 K hK
        have e52 : f 52 = _ := hE 5 52 _ rfl (by kernel_rfl)
        have e57 : f 57 = _ := hE 0 57 _ rfl (by kernel_rfl)
        have e49 : f 49 = _ := hE 8 49 _ rfl (by kernel_rfl)
        clear hE h0
        refine yes_of (want_yes rfl rfl e49) ?_
        go_simp; exact hK _ _ (gb_refl _ _) rfl
      -- 15: more.go:18 pick
      apply told_is
      · intro W f hW hE h0 K hK
        have e49 : f 49 = _ := hE 9 49 _ rfl (by kernel_rfl)
        have e58 : f 58 = _ := hE 0 58 _ rfl (by kernel_rfl)
        clear hE h0
        refine yes_of (want_free rfl) ?_
        go_simp; exact hK _ _ (gb_refl _ _) rfl
      -- 16: more.go:18 move
      apply told_is
      · intro W f hW hE h0 K hK
        have e59 : f 59 = _ := hE 0 59 _ rfl (by kernel_rfl)
        clear hE h0
        refine yes_of (want_free rfl) ?_
        go_simp; exact hK _ _ (gb_refl _ _) rfl
      -- 17: more.go:18 call
      apply told_is
      · intro W f hW hE h0 K hK
        have e60 : f 60 = _ := hE 0 60 _ rfl (by kernel_rfl)
        clear hE h0
        refine yes_of (want_yes rfl rfl e60) ?_
        go_simp
        refine (HAw.out W (gb_none HG1.out (gb_none Hg2.out hW))).mono ?_
        rintro e w1' ⟨rfl, g'⟩
        exact ⟨_, rfl, hK _ _ g' rfl⟩
      -- 18: more.go:18 pick
      apply told_is
      · intro W f hW hE h0 K hK
        have e60 : f 60 = _ := hE 1 60 _ rfl (by kernel_rfl)
        have e61 : f 61 = _ := hE 0 61 _ rfl (by kernel_rfl)
        clear hE h0
        refine yes_of (want_free rfl) ?_
        go_simp; exact hK _ _ (gb_refl _ _) rfl
      -- 19: more.go:18 assign
      apply told_is
      · intro W f hW hE h0 K hK
        have e62 : f 62 = _ := hE 0 62 _ rfl (by kernel_rfl)
        clear hE h0
        refine yes_of (want_free rfl) ?_
        go_simp; exact hK _ _ (gb_refl _ _) rfl
      intro W f hW hA
      simp only [lexIn, Act.put, List.setIfInBounds_toArray, List.set_cons_zero, List.set_cons_succ]
      have e2 : f 2 = _ := hA 0 (some 2) _ rfl
      rw [e2]
      clear hA
      have HgE := Lib.hid (gb_none HG1.out (gb_none Hg2.out hW))
      clear hW
      go_wp2_with fail
      go_ret
      exact ⟨rfl, gb_below HgE.out (Nat.le_refl _)⟩

theorem et : Tryz.prog.globalNamed "errors.errorType" = some 0 := by kernel_rfl
theorem rt : (Tryz.prog.cutTypes.find? (·.1 == "internal/reflectlite.rtype")).map (·.2) = some 155 := by kernel_rfl
theorem one_error : ((List.range 218).filter fun t => Tryz.prog.rowNamed t [101, 114, 114, 111, 114]) = [53] := by kernel_rfl
theorem how_many : Tryz.prog.types.size = 218 := by kernel_rfl
theorem handle : typeHandle Tryz.prog 53 = .pointer (some ⟨2, 53, none⟩) := by kernel_rfl
theorem errT {W : World} (h : laidMetH Tryz.prog Rows.snapSizeRow.laid W) : W.cell? ⟨0, 0, none⟩ = some (.iface 155 (.agg #[.pointer (some ⟨2, 53, none⟩)])) := by
  have hm : ("errors.errorType", Rows.laid_errors_errorType) ∈ (Rows.snapSizeRow.laid.filter fun x => x.2.handleName?.isSome) := by simp [Rows.snapSizeRow, List.filter, DataW.handleName?, Rows.laid_errors_errorType]
  obtain ⟨n, u, t, hn, hu, ht, hr, hc⟩ := (laidMetH_iff.1 h).2 _ hm
  obtain rfl := Option.some.inj hn
  obtain rfl := Option.some.inj (rt.symm.trans hu)
  have hin : t ∈ [53] := by
    rw [← one_error]
    exact List.mem_filter.2 ⟨List.mem_range.2 (how_many ▸ ht), hr⟩
  obtain rfl := List.mem_singleton.1 hin
  rw [handle] at hc
  have := World.var?_cell et hc 0
  simpa using this

set_option maxRecDepth 100000 in
theorem contract (H : Type) (enc : TypeId × Value → H) (W : World) (base : Nat) (args : Array Value) (ds gs : List (DataW H)) (before : List MemPlace)
    (hval0 : ∀ (j : Nat) t v, Tryz.f5.params[j]? = some t → args[j]? = some v → Value.okWide Tryz.prog W .any base t v)
    (hW : DataW.Whole enc Tryz.prog Tryz.f5.params.toList Rows.snapSizeSpec.vars false W args.toList ds gs before) (hL : laidMetH Tryz.prog Rows.snapSizeRow.laid W) :
    Calls Tryz.prog 5 args W fun e W' => ∃ v, e = .returned v ∧ Rows.snapSizeSpec.post enc Tryz.prog Tryz.f5 false true false false W args v W' := by
  have hval : ∀ (j : Nat) t v, Tryz.f5.params[j]? = some t → args[j]? = some v → Value.okWide Tryz.prog W .any base t v := hval0
  have hW' := hW
  obtain ⟨p, q, hA0, hV, rfl, hfz, hnd⟩ := hW
  have hA : DataW.TrodAll enc Tryz.prog W 0 (fun _ => true) true Tryz.f5.params.toList args.toList ds p := hA0
  rw [Tryz.params5] at hA hval
  obtain ⟨v0, vs0, d0, ds0, p0, q0, hargs, rfl, rfl, h0, r0⟩ := trodAll_cons hA
  obtain ⟨rfl, rfl, rfl⟩ := trodAll_nil r0
  obtain rfl : args = #[v0] := by cases args; simp_all
  obtain ⟨rfl, rfl⟩ := trodVars_none hV
  have k0 := h0
  have lt0 : ∀ x ∈ p0, x.block < W.heap.size := by obtain ⟨m, hm⟩ := k0; exact DataW.trod_lt m _ _ _ hm
  obtain ⟨a0, len0, cap0, rfl⟩ := okWide_slice Tryz.underlying36 (hval 0 36 v0 rfl rfl)
  obtain ⟨z0, w0⟩ : ∃ zs, IsRow .u8 W a0 len0 cap0 zs := by
    obtain ⟨fuel, hf⟩ := h0
    rcases open_ints Tryz.underlying36 Tryz.underlying5 (by kernel_rfl) hf with ⟨hcs, _⟩ | ⟨x, l, c, zs, hcs, _, hl, hm, hz, _, hcell, hwz⟩
    · simp [Value.cells] at hcs
      obtain ⟨rfl, rfl, rfl⟩ := hcs
      exact ⟨[], .inl ⟨rfl, rfl, rfl, rfl⟩⟩
    · simp [Value.cells] at hcs
      obtain ⟨rfl, rfl, rfl⟩ := hcs
      exact ⟨zs, .inr ⟨_, rfl, hl, hm, by simpa using hz, hcell, hwz⟩⟩
  clear hA0 hval0
  refine (walk a0 len0 cap0 z0 W w0 (errT hL)).mono fun e W' ⟨he, bel⟩ => ?_
  subst he
  exact ⟨_, rfl, _, _, _, [], _, [], hW', trodAll_mk1 (shut_bool Tryz.underlying4 _), (trodAll_cons_mk (Below.trod laidOut (by kernel_rfl) (of_decide_eq_true (by kernel_rfl)) k0 bel lt0) trodAll_mk0), rfl, bel.frame _, fun h => by cases h⟩

def lay (cs : Array Value) : Obj → Obj
  | .cells _ t frozen => .cells cs t frozen
  | o => o

noncomputable def laidWorld (os : Os) : World :=
  { World.holding Tryz.prog os ⟨#[], #[], []⟩ with heap := ((World.holding Tryz.prog os ⟨#[], #[], []⟩).heap).modify 0 (lay #[.iface 155 (.agg #[.pointer (some ⟨2, 53, none⟩)])]) }
theorem laid_met (os : Os) : laidMetH Tryz.prog Rows.snapSizeRow.laid ((laidWorld os).forCall (fun _ _ => 0) ⟨#[], #[.slice none 0 0], []⟩).memory :=
  laidMetH_of_parts (laidMet_nil _ _) (by kernel_rfl)
theorem reads (os : Os) {H : Type} (enc : TypeId × Value → H) : ∃ places, DataW.whole enc Tryz.prog ((laidWorld os).forCall (fun _ _ => 0) ⟨#[], #[.slice none 0 0], []⟩).memory Tryz.f5.params.toList Rows.snapSizeSpec.vars false (show Array Value from #[.slice none 0 0]).toList 8 = some ([.nil], [], places) :=
  ⟨[], by kernel_rfl⟩

set_option maxRecDepth 100000 in
theorem lifted (os : Os) (started : os.Started) (H : Type) (enc : TypeId × Value → H) (F : Stop.Interp) :
    ReturnsInHanded {} Tryz.checked os 5 .any ((OpenSpec.ofChange Rows.snapSizeSpec).preRow enc Tryz.prog Tryz.f5 Rows.snapSizeRow.domain false Rows.snapSizeRow.laid) (((OpenSpec.ofChange Rows.snapSizeSpec).at F).post enc Tryz.prog Tryz.f5 false true false false) := by
  obtain ⟨places, hx⟩ := reads os enc
  refine returnsInHanded_of_row (C := Tryz.checked) (s := OpenSpec.ofChange Rows.snapSizeSpec) own started (by kernel_rfl) Tryz.func5
    (witness_row_at (enc := enc) (C := Tryz.checked) false (laidWorld os) #[.slice none 0 0] rfl (by kernel_rfl) (by kernel_rfl) (by kernel_rfl)
      (OpenSpec.preRow_of_cond 8 hx (by kernel_rfl) (fun k hk => by cases hk) (by kernel_rfl) (laid_met os))) ?_
  intro W base args ds gs before hval hW _ _ _ hL _ _
  exact contract H enc W base args ds gs before hval hW hL

theorem said : Rows.SnapSizeSaid :=
  OpenClaim.holds_of_cond 5 Tryz.f5 rfl rfl rfl rfl rfl rfl rfl ⟨rfl, rfl, rfl, rfl, rfl⟩ rfl rfl rfl rfl rfl (by kernel_rfl) Tryz.func5 (by kernel_rfl)
    (of_decide_eq_true (by kernel_rfl)) (by unfold Func.isWrapper; first | (rw [if_pos (by decide +kernel)]; kernel_rfl) | (rw [if_neg (by decide +kernel)]; exact ⟨rfl, rfl⟩))
    (fun os started H enc _ F => by rw [OpenClaim.pre_eq_preRow]; exact lifted os started H enc F)

theorem plain (f : FuncId) (fn : Func) (hf : Tryz.pinned.checked.prog.funcNamed "deaddrop/deaddroplaw13.SnapSize" = some f) (hfn : Tryz.pinned.checked.prog.funcs[f]? = some fn) :
    true = Tryz.pinned.checked.prog.looks [] ∧ ∀ (j : Nat) t, fn.params[j]? = some t → Tryz.pinned.checked.prog.wantsStandIn t = false := by
  obtain rfl : f = 5 := Option.some.inj ((show Tryz.prog.funcNamed "deaddrop/deaddroplaw13.SnapSize" = some 5 by kernel_rfl).symm.trans hf) |>.symm
  obtain rfl : fn = Tryz.f5 := (Option.some.inj (Tryz.func5.symm.trans hfn)).symm
  refine ⟨by kernel_rfl, fun j t ht => ?_⟩
  have hall : (Tryz.f5.params.toList.all fun u => !Tryz.prog.wantsStandIn u) = true := by kernel_rfl
  have hm : t ∈ Tryz.f5.params.toList := by simpa using Array.mem_of_getElem? ht
  exact (show Tryz.prog.wantsStandIn t = false by simpa using List.all_eq_true.1 hall t hm)

theorem card : Rows.SnapSizeCardSaid :=
  Claim7.holds_tied_plain_at .later [] _ _ _ _ said (fun _ h => by cases h) (by kernel_rfl) (fun _ h => by cases h) snapSize_row_tie rfl ⟨rfl, rfl⟩ (by kernel_rfl) rfl plain (by kernel_rfl)
#print axioms card
end Go.Proofs.YthijiefopcnclaaGreatDoor.snapSize
