/-
  Proved: whatever values of its parameters' types it is called with, deaddroplaw1.ChachaMade returns true, and each argument reads behind the call as it read before.
  Conditions: none but those of the row itself.
  (The frame round the walk was written by the kit's proof-skeleton.mjs.)
-/
import Derived.Test.YtkeincmmcdcggaaRows
import Derived.WalkKit
import Derived.ProofKit
import Derived.OpenShut
import Derived.ShutString
import Derived.Test.YtkeincmmcdcggaaHelp
import Derived.Test.YtkeincmmcdcggaaTold
import Derived.ChangeOld
import Derived.Below
namespace Go.Proofs.Ytkeincmmcdcggaa.chachaMade
open Go.ChangeShapes Go.WideShapes Go.ChangeAt Go.RowKit
open Go.ChangeMaps (open_string shut_string)
open Go.Proofs.Ytkeincmmcdcggaa.Wd Go.Proofs.Ytkeincmmcdcggaa.Mm
set_option linter.unusedVariables false

theorem own : ownKnob Try.prog.godebug = none := by kernel_rfl
theorem laidOut : laidOutB Try.prog = true := by kernel_rfl

/-- WHAT THE WALK IS TOLD OF A SLICE OF INTEGERS THAT CAME IN: it is nil; or it leads to a row of 'cap' cells, the numbers 'zs' (the first 'len' are its elements, the rest its spare room), each fitting its kind. -/
def IsRow (k : IntKind) (w : World) (a : Option Addr) (len cap : Nat) (zs : List Int) : Prop :=
  (a = none ∧ len = 0 ∧ cap = 0 ∧ zs = []) ∨
  ∃ x, a = some x ∧ len ≤ cap ∧ cap ≤ maxLen ∧ zs.length = cap ∧ (∀ i, i < zs.length → w.cell? (x.add i) = some (.int k (zs.getD i 0))) ∧ ∀ n ∈ zs, (Lit.int k n).wf = true

def toldV (l : List UInt8) : Td.Spec := fun W v => Told 0 W v l
theorem told_0 {B : Nat} {w : World} {v : Value} {l : List UInt8} (h : Told B w v l) : toldV l w v := by
  rcases h with h | ⟨hn, g, hv, _, hr⟩
  · exact .inl h
  · exact .inr ⟨hn, g, hv, Nat.zero_le _, hr⟩
theorem told_stays {l : List UInt8} : Td.Stays (fun a b => a.grownBy b none) (toldV l) := fun _ _ _ h k => Told.keep k h
open Td
attribute [local go_sem] upon_value upon_skip upon_enter upon_row look_tmp look_const look_func look_global

set_option maxHeartbeats 40000000 in
set_option maxRecDepth 100000 in
theorem walk (a0 : Option Addr) (len0 cap0 : Nat) (z0 : List Int) (a1 : Option Addr) (len1 cap1 : Nat) (z1 : List Int) (a2 : Option Addr) (len2 cap2 : Nat) (z2 : List Int) (a3 : Int) (a4 : Bool) (w : World) (w0 : IsRow .u8 w a0 len0 cap0 z0) (w1 : IsRow .u8 w a1 len1 cap1 z1) (w2 : IsRow .u8 w a2 len2 cap2 z2) (w3 : (Lit.int .u8 a3).wf = true) :
    Calls Try.prog 5 #[.slice a0 len0 cap0, .slice a1 len1 cap1, .slice a2 len2 cap2, .int .u8 a3, .bool a4] w fun e w' => e = .returned (.bool true) ∧ Below w.heap.size w w' := by
  obtain ⟨hb0, hl0, _⟩ := holds_of_row w0
  obtain ⟨hb1, hl1, _⟩ := holds_of_row w1
  obtain ⟨hb2, hl2, hl2c⟩ := holds_of_row w2
  obtain ⟨hx0, hx1⟩ : 0 ≤ a3 ∧ a3 ≤ 255 := by
    have h1 : IntKind.u8.min = 0 := by decide
    have h2 : IntKind.u8.max = 255 := by decide
    simp only [Lit.wf, h1, h2, Bool.and_eq_true, decide_eq_true_eq] at w3
    exact w3
  clear w0 w1 w2 w3
  generalize bytesOf z0 len0 = b0 at *
  generalize bytesOf z1 len1 = b1 at *
  generalize bytesOf z2 len2 = bs at *
  have Hsz : Hid ((⟨bs.toArray⟩ : ByteArray).size ≤ 9223372036854775807) := by show _ ≤ _; rw [← len_data, ba, hb2.1]; exact hl2
  by_cases h2 : 300 < len2
  · have t2 : decide ((300 : Int) < (len2 : Int)) = true := by simp; omega
    go_enter Try.func5, Try.ntmps5
    go_wp2_with fail
    refine (awake_any _).mono ?_
    rintro e x1 ⟨rfl, g1⟩
    go_wp2_with fail
    go_ret
    exact ⟨rfl, below_of g1⟩
  · have t2 : decide ((300 : Int) < (len2 : Int)) = false := by simp; omega
    cases a4
    · skip
      go_enter Try.func5, Try.ntmps5
      go_wp2_with fail
      refine (bytes_any a0 len0 cap0 32 b0 _ hb0 hl0 (by omega)).mono ?_
      rintro e y1 ⟨rfl, k1⟩
      go_wp2_with fail
      refine (bytes_any a1 len1 cap1 12 b1 _ (hb1.keep k1) hl1 (by omega)).mono ?_
      rintro e y2 ⟨rfl, k2⟩
      have k := gb_none k1 k2
      have hb := hb2.keep k
      generalize (⟨(bytesS b0 32).toArray⟩ : ByteArray) = key
      generalize (⟨(bytesS b1 12).toArray⟩ : ByteArray) = non
      go_wp2_with fail
      apply wp_region_told (le := fun a b => a.grownBy b none) [isV _, isV _, isV _, isV _, toldV (xorA key non (4294967295 - a3 % 6) bs), isV _, isV _, isV _, isV _, isV _, isV _, isV _, isV _, isV _, isV _, isV _, isV _, isV _, isV _, isV _, isV _, isV _, isV _, isV _, isV _, isV _, isV _, isV _]
      case hn => rfl
      case hm => kernel_rfl
      case hB => kernel_rfl
      case ht => exact fun _ _ _ h k => gb_none h k
      case hw => exact gb_drew (gb_refl _ _)
      -- 0: law.go:53 move
      apply told_is
      · intro W f hW hE h0 K hK
        have e11 := h0 11 (by kernel_rfl)
        conv at e11 => rhs; whnf
        clear hE h0
        refine yes_of (want_free rfl) ?_
        go_simp; exact hK _ _ (gb_refl _ _) rfl
      -- 1: law.go:53 move
      apply told_is
      · intro W f hW hE h0 K hK
        have e12 := h0 12 (by kernel_rfl)
        conv at e12 => rhs; whnf
        clear hE h0
        refine yes_of (want_free rfl) ?_
        go_simp; exact hK _ _ (gb_refl _ _) rfl
      -- 2: law.go:53 move
      apply told_is
      · intro W f hW hE h0 K hK
        have e13 := h0 13 (by kernel_rfl)
        conv at e13 => rhs; whnf
        clear hE h0
        refine yes_of (want_free rfl) ?_
        go_simp; exact hK _ _ (gb_refl _ _) rfl
      -- 3: law.go:53 move
      apply told_is
      · intro W f hW hE h0 K hK
        have e2 := h0 2 (by kernel_rfl)
        conv at e2 => rhs; whnf
        clear hE h0
        refine yes_of (want_free rfl) ?_
        go_simp; exact hK _ _ (gb_refl _ _) rfl
      -- 4: law.go:53 call
      apply told_at told_stays
      · intro W f hW hE h0 K hK
        have e29 : f 29 = _ := hE 3 29 _ rfl (by kernel_rfl)
        have e30 : f 30 = _ := hE 2 30 _ rfl (by kernel_rfl)
        have e31 : f 31 = _ := hE 1 31 _ rfl (by kernel_rfl)
        have e32 : f 32 = _ := hE 0 32 _ rfl (by kernel_rfl)
        clear hE h0
        refine yes_of (want_free rfl) ?_
        go_simp
        refine (xor_any key non _ a2 len2 cap2 _ _ hl2 (hb.keep hW)).mono ?_
        rintro e w1 ⟨v, rfl, g, t⟩
        exact ⟨_, rfl, hK _ _ g (told_0 t)⟩
      -- 5: law.go:53 convert
      apply told_is
      · intro W f hW hE h0 K hK
        have e33 := hE 0 33 _ rfl (by kernel_rfl)
        clear hE h0
        refine yes_of (want_free rfl) ?_
        have hc := told_string e33 W (gb_refl _ _)
        go_simp; exact hK _ _ (gb_refl _ _) rfl
      -- 6: law.go:53 move
      apply told_is
      · intro W f hW hE h0 K hK
        have e11 := h0 11 (by kernel_rfl)
        conv at e11 => rhs; whnf
        clear hE h0
        refine yes_of (want_free rfl) ?_
        go_simp; exact hK _ _ (gb_refl _ _) rfl
      -- 7: law.go:53 move
      apply told_is
      · intro W f hW hE h0 K hK
        have e12 := h0 12 (by kernel_rfl)
        conv at e12 => rhs; whnf
        clear hE h0
        refine yes_of (want_free rfl) ?_
        go_simp; exact hK _ _ (gb_refl _ _) rfl
      -- 8: law.go:53 move
      apply told_is
      · intro W f hW hE h0 K hK
        have e13 := h0 13 (by kernel_rfl)
        conv at e13 => rhs; whnf
        clear hE h0
        refine yes_of (want_free rfl) ?_
        go_simp; exact hK _ _ (gb_refl _ _) rfl
      -- 9: law.go:53 move
      apply told_is
      · intro W f hW hE h0 K hK
        have e2 := h0 2 (by kernel_rfl)
        conv at e2 => rhs; whnf
        clear hE h0
        refine yes_of (want_free rfl) ?_
        go_simp; exact hK _ _ (gb_refl _ _) rfl
      -- 10: law.go:53 convert
      apply told_is
      · intro W f hW hE h0 K hK
        have e38 : f 38 = _ := hE 0 38 _ rfl (by kernel_rfl)
        clear hE h0
        refine yes_of (want_free rfl) ?_
        have hc := held_string (c := cap2) hb W hW
        go_simp; exact hK _ _ (gb_refl _ _) rfl
      -- 11: law.go:53 call
      apply told_is
      · intro W f hW hE h0 K hK
        have e35 : f 35 = _ := hE 4 35 _ rfl (by kernel_rfl)
        have e36 : f 36 = _ := hE 3 36 _ rfl (by kernel_rfl)
        have e37 : f 37 = _ := hE 2 37 _ rfl (by kernel_rfl)
        have e39 : f 39 = _ := hE 0 39 _ rfl (by kernel_rfl)
        clear hE h0
        refine yes_of (want_free rfl) ?_
        go_simp
        refine (refXor_any _ _ _ _ _ Hsz.out).mono ?_
        rintro e w1 ⟨rfl, g⟩
        exact ⟨_, rfl, hK _ _ g rfl⟩
      -- 12: law.go:53 binOp
      apply told_is
      · intro W f hW hE h0 K hK
        have e34 : f 34 = _ := hE 6 34 _ rfl (by kernel_rfl)
        have e40 : f 40 = _ := hE 0 40 _ rfl (by kernel_rfl)
        clear hE h0
        refine yes_of (want_free rfl) ?_
        go_simp; exact hK _ _ (gb_refl _ _) rfl
      -- 13: law.go:53 move
      apply told_is
      · intro W f hW hE h0 K hK
        have e41 : f 41 = _ := hE 0 41 _ rfl (by kernel_rfl)
        clear hE h0
        refine yes_of (want_free rfl) ?_
        go_simp; exact hK _ _ (gb_refl _ _) rfl
      -- 14: law.go:53 move
      apply told_is
      · intro W f hW hE h0 K hK
        have e11 := h0 11 (by kernel_rfl)
        conv at e11 => rhs; whnf
        have e42 : f 42 = _ := hE 0 42 _ rfl (by kernel_rfl)
        clear hE h0
        refine yes_of (want_yes rfl rfl e42) ?_
        go_simp; exact hK _ _ (gb_refl _ _) rfl
      -- 15: law.go:53 move
      apply told_is
      · intro W f hW hE h0 K hK
        have e12 := h0 12 (by kernel_rfl)
        conv at e12 => rhs; whnf
        have e42 : f 42 = _ := hE 1 42 _ rfl (by kernel_rfl)
        clear hE h0
        refine yes_of (want_yes rfl rfl e42) ?_
        go_simp; exact hK _ _ (gb_refl _ _) rfl
      -- 16: law.go:53 move
      apply told_is
      · intro W f hW hE h0 K hK
        have e13 := h0 13 (by kernel_rfl)
        conv at e13 => rhs; whnf
        have e42 : f 42 = _ := hE 2 42 _ rfl (by kernel_rfl)
        clear hE h0
        refine yes_of (want_yes rfl rfl e42) ?_
        go_simp; exact hK _ _ (gb_refl _ _) rfl
      -- 17: law.go:53 call
      apply told_is
      · intro W f hW hE h0 K hK
        have e43 : f 43 = _ := hE 2 43 _ rfl (by kernel_rfl)
        have e44 : f 44 = _ := hE 1 44 _ rfl (by kernel_rfl)
        have e45 : f 45 = _ := hE 0 45 _ rfl (by kernel_rfl)
        have e42 : f 42 = _ := hE 3 42 _ rfl (by kernel_rfl)
        clear hE h0
        refine yes_of (want_yes rfl rfl e42) ?_
        go_simp
        refine (block_any _ _ _ _).mono ?_
        rintro e w1 ⟨rfl, g⟩
        exact ⟨_, rfl, hK _ _ g rfl⟩
      -- 18: law.go:53 move
      apply told_is
      · intro W f hW hE h0 K hK
        have e11 := h0 11 (by kernel_rfl)
        conv at e11 => rhs; whnf
        have e42 : f 42 = _ := hE 4 42 _ rfl (by kernel_rfl)
        clear hE h0
        refine yes_of (want_yes rfl rfl e42) ?_
        go_simp; exact hK _ _ (gb_refl _ _) rfl
      -- 19: law.go:53 move
      apply told_is
      · intro W f hW hE h0 K hK
        have e12 := h0 12 (by kernel_rfl)
        conv at e12 => rhs; whnf
        have e42 : f 42 = _ := hE 5 42 _ rfl (by kernel_rfl)
        clear hE h0
        refine yes_of (want_yes rfl rfl e42) ?_
        go_simp; exact hK _ _ (gb_refl _ _) rfl
      -- 20: law.go:53 move
      apply told_is
      · intro W f hW hE h0 K hK
        have e13 := h0 13 (by kernel_rfl)
        conv at e13 => rhs; whnf
        have e42 : f 42 = _ := hE 6 42 _ rfl (by kernel_rfl)
        clear hE h0
        refine yes_of (want_yes rfl rfl e42) ?_
        go_simp; exact hK _ _ (gb_refl _ _) rfl
      -- 21: law.go:53 call
      apply told_is
      · intro W f hW hE h0 K hK
        have e47 : f 47 = _ := hE 2 47 _ rfl (by kernel_rfl)
        have e48 : f 48 = _ := hE 1 48 _ rfl (by kernel_rfl)
        have e49 : f 49 = _ := hE 0 49 _ rfl (by kernel_rfl)
        have e42 : f 42 = _ := hE 7 42 _ rfl (by kernel_rfl)
        clear hE h0
        refine yes_of (want_yes rfl rfl e42) ?_
        go_simp
        refine (refBlock_any _ _ _ _).mono ?_
        rintro e w1 ⟨rfl, g⟩
        exact ⟨_, rfl, hK _ _ g rfl⟩
      -- 22: law.go:53 binOp
      apply told_is
      · intro W f hW hE h0 K hK
        have e46 : f 46 = _ := hE 4 46 _ rfl (by kernel_rfl)
        have e50 : f 50 = _ := hE 0 50 _ rfl (by kernel_rfl)
        have e42 : f 42 = _ := hE 8 42 _ rfl (by kernel_rfl)
        clear hE h0
        refine yes_of (want_yes rfl rfl e42) ?_
        go_simp; exact hK _ _ (gb_refl _ _) rfl
      -- 23: law.go:53 pick
      apply told_is
      · intro W f hW hE h0 K hK
        have e42 : f 42 = _ := hE 9 42 _ rfl (by kernel_rfl)
        have e51 : f 51 = _ := hE 0 51 _ rfl (by kernel_rfl)
        clear hE h0
        refine yes_of (want_free rfl) ?_
        go_simp; exact hK _ _ (gb_refl _ _) rfl
      -- 24: law.go:53 move
      apply told_is
      · intro W f hW hE h0 K hK
        have e52 : f 52 = _ := hE 0 52 _ rfl (by kernel_rfl)
        clear hE h0
        refine yes_of (want_free rfl) ?_
        go_simp; exact hK _ _ (gb_refl _ _) rfl
      -- 25: law.go:53 call
      apply told_is
      · intro W f hW hE h0 K hK
        have e53 : f 53 = _ := hE 0 53 _ rfl (by kernel_rfl)
        clear hE h0
        refine yes_of (want_yes rfl rfl e53) ?_
        go_simp
        refine (awake_any _).mono ?_
        rintro e w1 ⟨rfl, g⟩
        exact ⟨_, rfl, hK _ _ g rfl⟩
      -- 26: law.go:53 pick
      apply told_is
      · intro W f hW hE h0 K hK
        have e53 : f 53 = _ := hE 1 53 _ rfl (by kernel_rfl)
        have e54 : f 54 = _ := hE 0 54 _ rfl (by kernel_rfl)
        clear hE h0
        refine yes_of (want_free rfl) ?_
        go_simp; exact hK _ _ (gb_refl _ _) rfl
      -- 27: law.go:53 assign
      apply told_is
      · intro W f hW hE h0 K hK
        have e55 : f 55 = _ := hE 0 55 _ rfl (by kernel_rfl)
        clear hE h0
        refine yes_of (want_free rfl) ?_
        go_simp; exact hK _ _ (gb_refl _ _) rfl
      intro W f hW hA
      simp only [lexIn, Act.put, List.setIfInBounds_toArray, List.set_cons_zero, List.set_cons_succ]
      have e10 : f 10 = _ := hA 0 (some 10) _ rfl
      rw [e10]
      clear hA
      go_wp2
      go_ret
      exact ⟨rfl, below_of (gb_none k hW)⟩
    · skip
      go_enter Try.func5, Try.ntmps5
      go_wp2_with fail
      refine (bytes_any a0 len0 cap0 32 b0 _ hb0 hl0 (by omega)).mono ?_
      rintro e y1 ⟨rfl, k1⟩
      go_wp2_with fail
      refine (bytes_any a1 len1 cap1 12 b1 _ (hb1.keep k1) hl1 (by omega)).mono ?_
      rintro e y2 ⟨rfl, k2⟩
      have k := gb_none k1 k2
      have hb := hb2.keep k
      generalize (⟨(bytesS b0 32).toArray⟩ : ByteArray) = key
      generalize (⟨(bytesS b1 12).toArray⟩ : ByteArray) = non
      go_wp2_with fail
      apply wp_region_told (le := fun a b => a.grownBy b none) [isV _, isV _, isV _, isV _, toldV (xorA key non a3 bs), isV _, isV _, isV _, isV _, isV _, isV _, isV _, isV _, isV _, isV _, isV _, isV _, isV _, isV _, isV _, isV _, isV _, isV _, isV _, isV _, isV _, isV _, isV _]
      case hn => rfl
      case hm => kernel_rfl
      case hB => kernel_rfl
      case ht => exact fun _ _ _ h k => gb_none h k
      case hw => exact gb_drew (gb_refl _ _)
      -- 0: law.go:53 move
      apply told_is
      · intro W f hW hE h0 K hK
        have e11 := h0 11 (by kernel_rfl)
        conv at e11 => rhs; whnf
        clear hE h0
        refine yes_of (want_free rfl) ?_
        go_simp; exact hK _ _ (gb_refl _ _) rfl
      -- 1: law.go:53 move
      apply told_is
      · intro W f hW hE h0 K hK
        have e12 := h0 12 (by kernel_rfl)
        conv at e12 => rhs; whnf
        clear hE h0
        refine yes_of (want_free rfl) ?_
        go_simp; exact hK _ _ (gb_refl _ _) rfl
      -- 2: law.go:53 move
      apply told_is
      · intro W f hW hE h0 K hK
        have e13 := h0 13 (by kernel_rfl)
        conv at e13 => rhs; whnf
        clear hE h0
        refine yes_of (want_free rfl) ?_
        go_simp; exact hK _ _ (gb_refl _ _) rfl
      -- 3: law.go:53 move
      apply told_is
      · intro W f hW hE h0 K hK
        have e2 := h0 2 (by kernel_rfl)
        conv at e2 => rhs; whnf
        clear hE h0
        refine yes_of (want_free rfl) ?_
        go_simp; exact hK _ _ (gb_refl _ _) rfl
      -- 4: law.go:53 call
      apply told_at told_stays
      · intro W f hW hE h0 K hK
        have e29 : f 29 = _ := hE 3 29 _ rfl (by kernel_rfl)
        have e30 : f 30 = _ := hE 2 30 _ rfl (by kernel_rfl)
        have e31 : f 31 = _ := hE 1 31 _ rfl (by kernel_rfl)
        have e32 : f 32 = _ := hE 0 32 _ rfl (by kernel_rfl)
        clear hE h0
        refine yes_of (want_free rfl) ?_
        go_simp
        refine (xor_any key non _ a2 len2 cap2 _ _ hl2 (hb.keep hW)).mono ?_
        rintro e w1 ⟨v, rfl, g, t⟩
        exact ⟨_, rfl, hK _ _ g (told_0 t)⟩
      -- 5: law.go:53 convert
      apply told_is
      · intro W f hW hE h0 K hK
        have e33 := hE 0 33 _ rfl (by kernel_rfl)
        clear hE h0
        refine yes_of (want_free rfl) ?_
        have hc := told_string e33 W (gb_refl _ _)
        go_simp; exact hK _ _ (gb_refl _ _) rfl
      -- 6: law.go:53 move
      apply told_is
      · intro W f hW hE h0 K hK
        have e11 := h0 11 (by kernel_rfl)
        conv at e11 => rhs; whnf
        clear hE h0
        refine yes_of (want_free rfl) ?_
        go_simp; exact hK _ _ (gb_refl _ _) rfl
      -- 7: law.go:53 move
      apply told_is
      · intro W f hW hE h0 K hK
        have e12 := h0 12 (by kernel_rfl)
        conv at e12 => rhs; whnf
        clear hE h0
        refine yes_of (want_free rfl) ?_
        go_simp; exact hK _ _ (gb_refl _ _) rfl
      -- 8: law.go:53 move
      apply told_is
      · intro W f hW hE h0 K hK
        have e13 := h0 13 (by kernel_rfl)
        conv at e13 => rhs; whnf
        clear hE h0
        refine yes_of (want_free rfl) ?_
        go_simp; exact hK _ _ (gb_refl _ _) rfl
      -- 9: law.go:53 move
      apply told_is
      · intro W f hW hE h0 K hK
        have e2 := h0 2 (by kernel_rfl)
        conv at e2 => rhs; whnf
        clear hE h0
        refine yes_of (want_free rfl) ?_
        go_simp; exact hK _ _ (gb_refl _ _) rfl
      -- 10: law.go:53 convert
      apply told_is
      · intro W f hW hE h0 K hK
        have e38 : f 38 = _ := hE 0 38 _ rfl (by kernel_rfl)
        clear hE h0
        refine yes_of (want_free rfl) ?_
        have hc := held_string (c := cap2) hb W hW
        go_simp; exact hK _ _ (gb_refl _ _) rfl
      -- 11: law.go:53 call
      apply told_is
      · intro W f hW hE h0 K hK
        have e35 : f 35 = _ := hE 4 35 _ rfl (by kernel_rfl)
        have e36 : f 36 = _ := hE 3 36 _ rfl (by kernel_rfl)
        have e37 : f 37 = _ := hE 2 37 _ rfl (by kernel_rfl)
        have e39 : f 39 = _ := hE 0 39 _ rfl (by kernel_rfl)
        clear hE h0
        refine yes_of (want_free rfl) ?_
        go_simp
        refine (refXor_any _ _ _ _ _ Hsz.out).mono ?_
        rintro e w1 ⟨rfl, g⟩
        exact ⟨_, rfl, hK _ _ g rfl⟩
      -- 12: law.go:53 binOp
      apply told_is
      · intro W f hW hE h0 K hK
        have e34 : f 34 = _ := hE 6 34 _ rfl (by kernel_rfl)
        have e40 : f 40 = _ := hE 0 40 _ rfl (by kernel_rfl)
        clear hE h0
        refine yes_of (want_free rfl) ?_
        go_simp; exact hK _ _ (gb_refl _ _) rfl
      -- 13: law.go:53 move
      apply told_is
      · intro W f hW hE h0 K hK
        have e41 : f 41 = _ := hE 0 41 _ rfl (by kernel_rfl)
        clear hE h0
        refine yes_of (want_free rfl) ?_
        go_simp; exact hK _ _ (gb_refl _ _) rfl
      -- 14: law.go:53 move
      apply told_is
      · intro W f hW hE h0 K hK
        have e11 := h0 11 (by kernel_rfl)
        conv at e11 => rhs; whnf
        have e42 : f 42 = _ := hE 0 42 _ rfl (by kernel_rfl)
        clear hE h0
        refine yes_of (want_yes rfl rfl e42) ?_
        go_simp; exact hK _ _ (gb_refl _ _) rfl
      -- 15: law.go:53 move
      apply told_is
      · intro W f hW hE h0 K hK
        have e12 := h0 12 (by kernel_rfl)
        conv at e12 => rhs; whnf
        have e42 : f 42 = _ := hE 1 42 _ rfl (by kernel_rfl)
        clear hE h0
        refine yes_of (want_yes rfl rfl e42) ?_
        go_simp; exact hK _ _ (gb_refl _ _) rfl
      -- 16: law.go:53 move
      apply told_is
      · intro W f hW hE h0 K hK
        have e13 := h0 13 (by kernel_rfl)
        conv at e13 => rhs; whnf
        have e42 : f 42 = _ := hE 2 42 _ rfl (by kernel_rfl)
        clear hE h0
        refine yes_of (want_yes rfl rfl e42) ?_
        go_simp; exact hK _ _ (gb_refl _ _) rfl
      -- 17: law.go:53 call
      apply told_is
      · intro W f hW hE h0 K hK
        have e43 : f 43 = _ := hE 2 43 _ rfl (by kernel_rfl)
        have e44 : f 44 = _ := hE 1 44 _ rfl (by kernel_rfl)
        have e45 : f 45 = _ := hE 0 45 _ rfl (by kernel_rfl)
        have e42 : f 42 = _ := hE 3 42 _ rfl (by kernel_rfl)
        clear hE h0
        refine yes_of (want_yes rfl rfl e42) ?_
        go_simp
        refine (block_any _ _ _ _).mono ?_
        rintro e w1 ⟨rfl, g⟩
        exact ⟨_, rfl, hK _ _ g rfl⟩
      -- 18: law.go:53 move
      apply told_is
      · intro W f hW hE h0 K hK
        have e11 := h0 11 (by kernel_rfl)
        conv at e11 => rhs; whnf
        have e42 : f 42 = _ := hE 4 42 _ rfl (by kernel_rfl)
        clear hE h0
        refine yes_of (want_yes rfl rfl e42) ?_
        go_simp; exact hK _ _ (gb_refl _ _) rfl
      -- 19: law.go:53 move
      apply told_is
      · intro W f hW hE h0 K hK
        have e12 := h0 12 (by kernel_rfl)
        conv at e12 => rhs; whnf
        have e42 : f 42 = _ := hE 5 42 _ rfl (by kernel_rfl)
        clear hE h0
        refine yes_of (want_yes rfl rfl e42) ?_
        go_simp; exact hK _ _ (gb_refl _ _) rfl
      -- 20: law.go:53 move
      apply told_is
      · intro W f hW hE h0 K hK
        have e13 := h0 13 (by kernel_rfl)
        conv at e13 => rhs; whnf
        have e42 : f 42 = _ := hE 6 42 _ rfl (by kernel_rfl)
        clear hE h0
        refine yes_of (want_yes rfl rfl e42) ?_
        go_simp; exact hK _ _ (gb_refl _ _) rfl
      -- 21: law.go:53 call
      apply told_is
      · intro W f hW hE h0 K hK
        have e47 : f 47 = _ := hE 2 47 _ rfl (by kernel_rfl)
        have e48 : f 48 = _ := hE 1 48 _ rfl (by kernel_rfl)
        have e49 : f 49 = _ := hE 0 49 _ rfl (by kernel_rfl)
        have e42 : f 42 = _ := hE 7 42 _ rfl (by kernel_rfl)
        clear hE h0
        refine yes_of (want_yes rfl rfl e42) ?_
        go_simp
        refine (refBlock_any _ _ _ _).mono ?_
        rintro e w1 ⟨rfl, g⟩
        exact ⟨_, rfl, hK _ _ g rfl⟩
      -- 22: law.go:53 binOp
      apply told_is
      · intro W f hW hE h0 K hK
        have e46 : f 46 = _ := hE 4 46 _ rfl (by kernel_rfl)
        have e50 : f 50 = _ := hE 0 50 _ rfl (by kernel_rfl)
        have e42 : f 42 = _ := hE 8 42 _ rfl (by kernel_rfl)
        clear hE h0
        refine yes_of (want_yes rfl rfl e42) ?_
        go_simp; exact hK _ _ (gb_refl _ _) rfl
      -- 23: law.go:53 pick
      apply told_is
      · intro W f hW hE h0 K hK
        have e42 : f 42 = _ := hE 9 42 _ rfl (by kernel_rfl)
        have e51 : f 51 = _ := hE 0 51 _ rfl (by kernel_rfl)
        clear hE h0
        refine yes_of (want_free rfl) ?_
        go_simp; exact hK _ _ (gb_refl _ _) rfl
      -- 24: law.go:53 move
      apply told_is
      · intro W f hW hE h0 K hK
        have e52 : f 52 = _ := hE 0 52 _ rfl (by kernel_rfl)
        clear hE h0
        refine yes_of (want_free rfl) ?_
        go_simp; exact hK _ _ (gb_refl _ _) rfl
      -- 25: law.go:53 call
      apply told_is
      · intro W f hW hE h0 K hK
        have e53 : f 53 = _ := hE 0 53 _ rfl (by kernel_rfl)
        clear hE h0
        refine yes_of (want_yes rfl rfl e53) ?_
        go_simp
        refine (awake_any _).mono ?_
        rintro e w1 ⟨rfl, g⟩
        exact ⟨_, rfl, hK _ _ g rfl⟩
      -- 26: law.go:53 pick
      apply told_is
      · intro W f hW hE h0 K hK
        have e53 : f 53 = _ := hE 1 53 _ rfl (by kernel_rfl)
        have e54 : f 54 = _ := hE 0 54 _ rfl (by kernel_rfl)
        clear hE h0
        refine yes_of (want_free rfl) ?_
        go_simp; exact hK _ _ (gb_refl _ _) rfl
      -- 27: law.go:53 assign
      apply told_is
      · intro W f hW hE h0 K hK
        have e55 : f 55 = _ := hE 0 55 _ rfl (by kernel_rfl)
        clear hE h0
        refine yes_of (want_free rfl) ?_
        go_simp; exact hK _ _ (gb_refl _ _) rfl
      intro W f hW hA
      simp only [lexIn, Act.put, List.setIfInBounds_toArray, List.set_cons_zero, List.set_cons_succ]
      have e10 : f 10 = _ := hA 0 (some 10) _ rfl
      rw [e10]
      clear hA
      go_wp2
      go_ret
      exact ⟨rfl, below_of (gb_none k hW)⟩

set_option maxRecDepth 100000 in
theorem lifted (os : Os) (started : os.Started) (H : Type) (enc : TypeId × Value → H) :
    ReturnsInHanded {} Try.checked os 5 .any (Rows.chachaMadeSpec.pre6 enc Try.prog Try.f5 Rows.chachaMadeRow.domain false) (Rows.chachaMadeSpec.post enc Try.prog Try.f5 false true false false) := by
  refine returnsInHanded_of_change (C := Try.checked) own started (by kernel_rfl) Try.func5
    (ChangeSpec.witness6 (enc := enc) (C := Try.checked) false ⟨#[], #[.slice none 0 0, .slice none 0 0, .slice none 0 0, .int .u8 0, .bool false], []⟩ 8 (by kernel_rfl) (by kernel_rfl) (by kernel_rfl) (by kernel_rfl)) ?_
  intro W base args ds gs before hval0 hW hcnd _
  have hval : ∀ (j : Nat) t v, Try.f5.params[j]? = some t → args[j]? = some v → Value.okWide Try.prog W .any base t v := hval0
  have hW' := hW
  obtain ⟨p, q, hA0, hV, rfl, hfz, hnd⟩ := hW
  have hA : DataW.TrodAll enc Try.prog W 0 (fun _ => true) true Try.f5.params.toList args.toList ds p := hA0
  rw [Try.params5] at hA hval
  obtain ⟨v0, vs0, d0, ds0, p0, q0, hargs, rfl, rfl, h0, r0⟩ := trodAll_cons hA
  obtain ⟨v1, vs1, d1, ds1, p1, q1, rfl, rfl, rfl, h1, r1⟩ := trodAll_cons r0
  obtain ⟨v2, vs2, d2, ds2, p2, q2, rfl, rfl, rfl, h2, r2⟩ := trodAll_cons r1
  obtain ⟨v3, vs3, d3, ds3, p3, q3, rfl, rfl, rfl, h3, r3⟩ := trodAll_cons r2
  obtain ⟨v4, vs4, d4, ds4, p4, q4, rfl, rfl, rfl, h4, r4⟩ := trodAll_cons r3
  obtain ⟨rfl, rfl, rfl⟩ := trodAll_nil r4
  obtain rfl : args = #[v0, v1, v2, v3, v4] := by cases args; simp_all
  obtain ⟨rfl, rfl⟩ := trodVars_none hV
  obtain ⟨a0, len0, cap0, rfl⟩ := okWide_slice Try.underlying25 (hval 0 25 v0 rfl rfl)
  have k0 := h0
  have lt0 : ∀ x ∈ p0, x.block < W.heap.size := by obtain ⟨m, hm⟩ := k0; exact DataW.trod_lt m _ _ _ hm
  obtain ⟨z0, w0⟩ : ∃ zs, IsRow .u8 W a0 len0 cap0 zs := by
    obtain ⟨fuel, hf⟩ := h0
    rcases open_ints Try.underlying25 Try.underlying5 (by kernel_rfl) hf with ⟨hcs, _⟩ | ⟨x, l, c, zs, hcs, _, hl, hm, hz, _, hcell, hwz⟩
    · simp [Value.cells] at hcs
      obtain ⟨rfl, rfl, rfl⟩ := hcs
      exact ⟨[], .inl ⟨rfl, rfl, rfl, rfl⟩⟩
    · simp [Value.cells] at hcs
      obtain ⟨rfl, rfl, rfl⟩ := hcs
      exact ⟨zs, .inr ⟨_, rfl, hl, hm, by simpa using hz, hcell, hwz⟩⟩
  obtain ⟨a1, len1, cap1, rfl⟩ := okWide_slice Try.underlying25 (hval 1 25 v1 rfl rfl)
  have k1 := h1
  have lt1 : ∀ x ∈ p1, x.block < W.heap.size := by obtain ⟨m, hm⟩ := k1; exact DataW.trod_lt m _ _ _ hm
  obtain ⟨z1, w1⟩ : ∃ zs, IsRow .u8 W a1 len1 cap1 zs := by
    obtain ⟨fuel, hf⟩ := h1
    rcases open_ints Try.underlying25 Try.underlying5 (by kernel_rfl) hf with ⟨hcs, _⟩ | ⟨x, l, c, zs, hcs, _, hl, hm, hz, _, hcell, hwz⟩
    · simp [Value.cells] at hcs
      obtain ⟨rfl, rfl, rfl⟩ := hcs
      exact ⟨[], .inl ⟨rfl, rfl, rfl, rfl⟩⟩
    · simp [Value.cells] at hcs
      obtain ⟨rfl, rfl, rfl⟩ := hcs
      exact ⟨zs, .inr ⟨_, rfl, hl, hm, by simpa using hz, hcell, hwz⟩⟩
  obtain ⟨a2, len2, cap2, rfl⟩ := okWide_slice Try.underlying25 (hval 2 25 v2 rfl rfl)
  have k2 := h2
  have lt2 : ∀ x ∈ p2, x.block < W.heap.size := by obtain ⟨m, hm⟩ := k2; exact DataW.trod_lt m _ _ _ hm
  obtain ⟨z2, w2⟩ : ∃ zs, IsRow .u8 W a2 len2 cap2 zs := by
    obtain ⟨fuel, hf⟩ := h2
    rcases open_ints Try.underlying25 Try.underlying5 (by kernel_rfl) hf with ⟨hcs, _⟩ | ⟨x, l, c, zs, hcs, _, hl, hm, hz, _, hcell, hwz⟩
    · simp [Value.cells] at hcs
      obtain ⟨rfl, rfl, rfl⟩ := hcs
      exact ⟨[], .inl ⟨rfl, rfl, rfl, rfl⟩⟩
    · simp [Value.cells] at hcs
      obtain ⟨rfl, rfl, rfl⟩ := hcs
      exact ⟨zs, .inr ⟨_, rfl, hl, hm, by simpa using hz, hcell, hwz⟩⟩
  obtain ⟨a3, rfl, rfl, rfl, w3⟩ := open_int Try.underlying5 (hval 3 5 v3 rfl rfl) h3
  obtain ⟨a4, rfl, rfl, rfl⟩ := open_bool Try.underlying4 (hval 4 4 v4 rfl rfl) h4
  clear hA0 hval0
  refine (walk a0 len0 cap0 z0 a1 len1 cap1 z1 a2 len2 cap2 z2 a3 a4 W w0 w1 w2 w3).mono fun e W' ⟨he, bel⟩ => ?_
  subst he
  exact ⟨_, rfl, _, _, _, [], _, [], hW', trodAll_mk1 (shut_bool Try.underlying4 _), (trodAll_cons_mk (Below.trod laidOut (by kernel_rfl) (of_decide_eq_true (by kernel_rfl)) k0 bel lt0) (trodAll_cons_mk (Below.trod laidOut (by kernel_rfl) (of_decide_eq_true (by kernel_rfl)) k1 bel lt1) (trodAll_cons_mk (Below.trod laidOut (by kernel_rfl) (of_decide_eq_true (by kernel_rfl)) k2 bel lt2) (trodAll_cons_mk (shut_int Try.underlying5 w3) (trodAll_cons_mk (shut_bool Try.underlying4 _) trodAll_mk0))))), rfl, bel.frame _, fun h => by cases h⟩

theorem over : Rows.chachaMadeRow.holds Try.pinned (OpenSpec.ofChange Rows.chachaMadeSpec) :=
  OpenClaim.holds_of_wide 5 Try.f5 rfl rfl rfl rfl rfl rfl rfl ⟨rfl, rfl, rfl, rfl, rfl⟩ rfl rfl rfl rfl rfl (by kernel_rfl) Try.func5 (by kernel_rfl)
    (of_decide_eq_true (by kernel_rfl)) (by unfold Func.isWrapper; first | (rw [if_pos (by decide +kernel)]; kernel_rfl) | (rw [if_neg (by decide +kernel)]; exact ⟨rfl, rfl⟩))
    (fun os started H enc _ => lifted os started H enc)

theorem proved : Rows.ChachaMadeSaid := over
#print axioms proved
end Go.Proofs.Ytkeincmmcdcggaa.chachaMade
