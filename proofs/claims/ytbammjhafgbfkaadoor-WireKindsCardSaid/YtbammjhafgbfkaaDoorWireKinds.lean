/-
  Proved: whatever values of its parameters' types it is called with, deaddroplaw4.WireKinds returns true, and each argument reads behind the call as it read before; the library's variable errors.errorType being what the program's own text lays (the card ties it).
  Conditions: none but those of the card itself.
-/
import Derived.Test.YtbammjhafgbfkaaDoorCards
import Derived.Test.YtbammjhafgbfkaaDoorTie
import Derived.WalkKit
import Derived.ProofKit
import Derived.OpenShut
import Derived.ShutString
import Derived.Below
import Derived.Deep.DeepHandedRow
import Derived.LaidSub
import Derived.LaidHandle
import Derived.LaidLaws
import Derived.RowKitTokens
import Derived.Test.YtbammjhafgbfkaaDoorVLaw
import Derived.IntWalk
import Derived.Outline
namespace Go.Proofs.YtbammjhafgbfkaaDoor.wireKinds
open Go.ChangeShapes Go.WideShapes Go.ChangeAt Go.RowKit
open Go.ChangeMaps (open_string shut_string)
open Go.Proofs.YtbammjhafgbfkaaDoor.Wd Go.Proofs.YtbammjhafgbfkaaDoor.Mm Go.Proofs.YtbammjhafgbfkaaDoor.Vw
set_option linter.unusedVariables false

theorem own : ownKnob Tryd.prog.godebug = none := by kernel_rfl


def S9 (a : Int) : ByteArray := ⟨#[UInt8.ofNat (4 + a % 200).toNat, 0, 0, 0, 0, 0, 0, 0, 0]⟩
theorem conv9 (a : Int) (h1 : 0 ≤ a) (h2 : a ≤ 255) (W : World) (g : Nat) (hg : W.heap.size = g) : (convert 35 9 (.slice (some ⟨g, 0, none⟩) 9 9)).run Tryd.prog (W.alloc (.cells #[.int .u8 (4 + a % 200), .int .u8 0, .int .u8 0, .int .u8 0, .int .u8 0, .int .u8 0, .int .u8 0, .int .u8 0, .int .u8 0] 5)) =
    .ok (.string (S9 a)) (W.alloc (.cells #[.int .u8 (4 + a % 200), .int .u8 0, .int .u8 0, .int .u8 0, .int .u8 0, .int .u8 0, .int .u8 0, .int .u8 0, .int .u8 0] 5)) := by
  subst hg
  have e : Value.int .u8 (4 + a % 200) = w8 (UInt8.ofNat (4 + a % 200).toNat) := by
    unfold w8
    rw [UInt8.toNat_ofNat']
    congr 1
    omega
  rw [e]
  exact run_convert_bytes_back (P := Tryd.prog) _ 35 9 5 ⟨W.heap.size, 0, none⟩ 9 [UInt8.ofNat (4 + a % 200).toNat, 0, 0, 0, 0, 0, 0, 0, 0] Tryd.underlying35 Tryd.underlying5 Tryd.underlying9 (row_bytes (l := [UInt8.ofNat (4 + a % 200).toNat, 0, 0, 0, 0, 0, 0, 0, 0]) (Row.new W _ _))
theorem get9 (a : Int) (h1 : 0 ≤ a) (h2 : a ≤ 255) : get (S9 a).data.toList = none := by
  have hk : ∀ j : UInt8, j.toNat ≤ 3 → UInt8.ofNat (4 + a % 200).toNat ≠ j := fun j hj e => by
    have := congrArg UInt8.toNat e
    rw [UInt8.toNat_ofNat'] at this
    omega
  have : rd 6 (S9 a).data.toList = none := by
    show rdB (some (rd 5)) (UInt8.ofNat (4 + a % 200).toNat :: _) = none
    rw [rdB, if_neg (hk 1 (by decide)), if_neg (hk 2 (by decide)), if_neg (hk 3 (by decide))]
  unfold get
  rw [this]
/-- The seven. -/
def seven (k : Int) (j : Nat) : Wr := match j with
  | 0 => .mk 1 0 ⟨#[120]⟩ []
  | 1 => .mk 1 0 ⟨#[]⟩ [num 1]
  | 2 => .mk 2 1 ⟨#[]⟩ []
  | 3 => .mk 2 0 ⟨#[]⟩ [num 1]
  | 4 => .mk 3 1 ⟨#[]⟩ []
  | 5 => .mk 3 0 ⟨#[120]⟩ []
  | _ => .mk k 0 ⟨#[]⟩ []
/-- What the row of the seven holds. -/
def cells7 (k : Int) (b1 b2 : Nat) : Array Value := #[.int .i64 1, .int .i64 0, .string ⟨#[120]⟩, .slice none 0 0, .int .i64 1, .int .i64 0, .string ⟨#[]⟩, .slice (some ⟨b1, 0, none⟩) 1 1, .int .i64 2, .int .i64 1, .string ⟨#[]⟩, .slice none 0 0,
  .int .i64 2, .int .i64 0, .string ⟨#[]⟩, .slice (some ⟨b2, 0, none⟩) 1 1, .int .i64 3, .int .i64 1, .string ⟨#[]⟩, .slice none 0 0, .int .i64 3, .int .i64 0, .string ⟨#[120]⟩, .slice none 0 0, .int .i64 k, .int .i64 0, .string ⟨#[]⟩, .slice none 0 0]
def numCells : Array Value := #[.int .i64 1, .int .i64 1, .string ⟨#[]⟩, .slice none 0 0]
theorem num_row (w : World) (g : Nat) (h : w.heap[g]? = some (.cells numCells 24 (0, 0))) : HL w 0 (.slice (some ⟨g, 0, none⟩) 1 1) [num 1] := by
  refine HL.laid [num 1] h (Nat.zero_le _) (by decide) 1 ?_
  intro i x hx
  match i, hx with
  | 0, hx =>
    cases hx
    exact ⟨rfl, rfl, rfl, none, 0, 0, rfl, .nil _ _⟩

def sevenMay (k : Int) (j : Nat) : Bool := j == 6 && decide (1 ≤ k) && decide (k ≤ 3)
theorem seven_may (k : Int) (j : Nat) (hj : j ≤ 6) : (seven k j).may = sevenMay k j ∧ (lst [seven k j]).may = sevenMay k j := by
  match j, hj with
  | 0, _ => exact ⟨rfl, rfl⟩
  | 1, _ => exact ⟨rfl, rfl⟩
  | 2, _ => exact ⟨rfl, rfl⟩
  | 3, _ => exact ⟨rfl, rfl⟩
  | 4, _ => exact ⟨rfl, rfl⟩
  | 5, _ => exact ⟨rfl, rfl⟩
  | 6, _ =>
    have h5 : ∀ R : Int, 0 < R → (seven k 6).fit R = sevenMay k 6 := by
      intro R hR
      show (Wr.mk k 0 ⟨#[]⟩ []).fit R = _
      rw [fit_mk]
      unfold sevenMay
      by_cases h1 : k = 1
      · subst h1; rfl
      by_cases h2 : k = 2
      · subst h2; rfl
      by_cases h3 : k = 3
      · subst h3
        rw [if_neg (by decide), if_neg (by decide), if_pos rfl, decide_eq_true hR, allFit_nil]; rfl
      · rw [if_neg h1, if_neg h2, if_neg h3]
        have : (decide (1 ≤ k) && decide (k ≤ 3)) = false := by
          rw [Bool.and_eq_false_iff, decide_eq_false_iff_not, decide_eq_false_iff_not]; omega
        rw [Bool.and_assoc, this]; rfl
    refine ⟨h5 6 (by decide), ?_⟩
    show (Wr.mk 3 0 ⟨#[]⟩ [seven k 6]).fit 6 = _
    rw [fit_mk, if_neg (by decide), if_neg (by decide), if_pos rfl, allFit_cons, allFit_nil, h5 _ (by decide)]
    simp
    intro _
    rfl
theorem sevenMay_yes (k : Int) (h1 : 1 ≤ k) (h2 : k ≤ 3) : sevenMay k 6 = true := by
  unfold sevenMay; rw [decide_eq_true h1, decide_eq_true h2]; rfl
theorem sevenMay_no (k : Int) (h : k < 1 ∨ 3 < k) : sevenMay k 6 = false := by
  unfold sevenMay
  rcases h with h | h
  · rw [decide_eq_false (show ¬ 1 ≤ k by omega)]; rfl
  · rw [decide_eq_false (show ¬ k ≤ 3 by omega), Bool.and_false]
theorem seven_len (k : Int) : (seven k 6).enc.length = if k = 1 then 9 else 5 := by
  show (Wr.mk k 0 ⟨#[]⟩ []).enc.length = _
  rw [enc_mk]
  by_cases h1 : k = 1
  · rw [if_pos h1, if_pos h1, List.length_cons, highs_len]
  · rw [if_neg h1, if_neg h1]
    by_cases h2 : k = 2
    · rw [if_pos h2]; rfl
    · rw [if_neg h2]; rfl
theorem seven_ne (k : Int) : (⟨(seven k 6).enc.toArray⟩ : ByteArray).size ≠ 0 := by
  show (seven k 6).enc.toArray.size ≠ 0
  rw [List.size_toArray, seven_len]
  by_cases h1 : k = 1
  · rw [if_pos h1]; decide
  · rw [if_neg h1]; decide
set_option maxHeartbeats 4000000 in
set_option maxRecDepth 100000 in
theorem kinds_0 (a0 a1 : Int) (w : World) (hj : a1 % 7 = 0) (ha1 : 0 ≤ a1) (ha2 : a1 ≤ 255) (HT : Hid (ErrT w)) :
    Calls Tryd.prog 9 #[.int .i64 a0, .int .u8 a1] w fun e w' => e = .returned (.bool true) ∧ Below w.heap.size w w' := by
  have cv := conv9 a1 ha1 ha2
  have Hgn := Lib.hid (get9 a1 ha1 ha2)
  go_enter Tryd.func9, Tryd.ntmps9
  go_wp2_with fail
  refine (num_any 1 _).mono ?_
  rintro e w1 ⟨rfl, g1⟩
  go_wp2_with fail
  refine (num_any 1 _).mono ?_
  rintro e w2 ⟨rfl, g2⟩
  have Hg0 : Hid (w.grownBy ((((w2.alloc (.cells numCells 24)).alloc (.cells (cells7 a0 w1.heap.size w2.heap.size) 24)).alloc (.cells #[.int .i64 1, .int .i64 0, .string ⟨#[120]⟩, .slice none 0 0] 24)).alloc (.cells #[.int .u8 (4 + a1 % 200), .int .u8 0, .int .u8 0, .int .u8 0, .int .u8 0, .int .u8 0, .int .u8 0, .int .u8 0, .int .u8 0] 5)) none) := gb_alloc (gb_alloc (gb_alloc (gb_alloc (gb_none (gb_alloc g1 _) g2) _) _) _) _
  have Hb0 : Hid (((((w2.alloc (.cells numCells 24)).alloc (.cells (cells7 a0 w1.heap.size w2.heap.size) 24)).alloc (.cells #[.int .i64 1, .int .i64 0, .string ⟨#[120]⟩, .slice none 0 0] 24)).alloc (.cells #[.int .u8 (4 + a1 % 200), .int .u8 0, .int .u8 0, .int .u8 0, .int .u8 0, .int .u8 0, .int .u8 0, .int .u8 0, .int .u8 0] 5)).heap[w2.heap.size + 1 + 1]? = some (.cells #[.int .i64 1, .int .i64 0, .string ⟨#[120]⟩, .slice none 0 0] 24 (0, 0))) :=
    (Below.heap_alloc _ _ (w2.heap.size + 1 + 1) (by simp)).trans (by have := heap_alloc_new ((w2.alloc (.cells numCells 24)).alloc (.cells (cells7 a0 w1.heap.size w2.heap.size) 24)) (.cells #[.int .i64 1, .int .i64 0, .string ⟨#[120]⟩, .slice none 0 0] 24); simpa using this)
  have Hx0 : Hid (HL ((((w2.alloc (.cells numCells 24)).alloc (.cells (cells7 a0 w1.heap.size w2.heap.size) 24)).alloc (.cells #[.int .i64 1, .int .i64 0, .string ⟨#[120]⟩, .slice none 0 0] 24)).alloc (.cells #[.int .u8 (4 + a1 % 200), .int .u8 0, .int .u8 0, .int .u8 0, .int .u8 0, .int .u8 0, .int .u8 0, .int .u8 0, .int .u8 0] 5)) 0 (.slice none 0 0) (seven a0 0).l) := .nil _ _
  clear g1 g2
  go_wp2_with fail
  refine (get_none (S9 a1) ((((w2.alloc (.cells numCells 24)).alloc (.cells (cells7 a0 w1.heap.size w2.heap.size) 24)).alloc (.cells #[.int .i64 1, .int .i64 0, .string ⟨#[120]⟩, .slice none 0 0] 24)).alloc (.cells #[.int .u8 (4 + a1 % 200), .int .u8 0, .int .u8 0, .int .u8 0, .int .u8 0, .int .u8 0, .int .u8 0, .int .u8 0, .int .u8 0] 5)) (by exact (by decide : (9 : Nat) ≤ 1099511627776)) Hgn.out (HT.out.grown Hg0.out)).mono ?_
  rintro e w3 ⟨rfl, g3⟩
  have Hg3 := Lib.hid (gb_none Hg0.out g3)
  have Hb3 := Lib.hid ((g3.block _ (Array.getElem?_eq_some_iff.1 Hb0.out).1 (by simp)).trans Hb0.out)
  have Hx3 := Lib.hid (Hx0.out.kept g3)
  obtain ⟨⟨b0, b1, b2, b3⟩, _, hbl⟩ := box4 Hb3.out
  have Hmay : Hid ((seven a0 0).may = false) := by show _ = _; rw [(seven_may a0 0 (by decide)).1]; rfl
  have Hmay2 : Hid ((lst [(seven a0 0)]).may = false) := by show _ = _; rw [(seven_may a0 0 (by decide)).2]; rfl
  clear g3 Hb0 Hx0 Hg0 cv
  go_wp2_with fail
  have hm3 := may_any (seven a0 0) (.slice none 0 0) (w3.alloc (.cells #[.int .i64 0, .int .i64 0, .string ⟨#[]⟩, .slice none 0 0] 24)) (Hx3.out.kept (gb_alloc (gb_refl _ _) _))
  rw [Hmay.out] at hm3
  refine hm3.mono ?_
  rintro e w4 ⟨rfl, g4⟩
  have Hg4 := Lib.hid (gb_none (gb_alloc Hg3.out _) g4)
  have Hb4 := Lib.hid (((gb_none (gb_alloc (gb_refl w3 none) _) g4).block _ hbl (by simp)).trans Hb3.out)
  have Hx4 := Lib.hid (Hx3.out.kept (gb_none (gb_alloc (gb_refl w3 none) _) g4))
  clear g4 b0 b1 b2 b3 hbl hm3
  obtain ⟨⟨b0, b1, b2, b3⟩, _, hbl⟩ := box4 Hb4.out
  go_wp2_with fail
  refine (put_no (seven a0 0) _ _ Hx4.out Hmay.out).mono ?_
  rintro e w5 ⟨rfl, g5⟩
  have Hg5 := Lib.hid (gb_none Hg4.out g5)
  have Hb5 := Lib.hid ((g5.block _ hbl (by simp)).trans Hb4.out)
  have Hx5 := Lib.hid (Hx4.out.kept g5)
  clear g5 b0 b1 b2 b3 hbl
  obtain ⟨⟨b0, b1, b2, b3⟩, _, hbl⟩ := box4 Hb5.out
  go_wp2_with fail
  refine (list_any [(seven a0 0)] (.slice (some ⟨w5.heap.size, 0, none⟩) 1 1) (w5.alloc (.cells #[.int .i64 1, .int .i64 0, .string ⟨#[120]⟩, .slice none 0 0] 24)) ?hlx).mono ?_
  case hlx =>
    refine HL.laid [(seven a0 0)] (heap_alloc_new _ _) (Nat.zero_le _) (by simp) 1 ?_
    intro i y hy
    match i, hy with
    | 0, hy =>
      cases hy
      exact ⟨rfl, rfl, rfl, _, _, _, rfl, Hx5.out.kept (gb_alloc (gb_refl _ _) _)⟩
  rintro e w6 ⟨A6, c6, rfl, hl6, g6⟩
  have Hg6 := Lib.hid (gb_none (gb_alloc Hg5.out _) g6)
  have Hl6 := Lib.hid (hl6.low (Nat.zero_le _))
  clear hl6 g6
  go_wp2_with fail
  have hm6 := may_any (lst [(seven a0 0)]) _ w6 Hl6.out
  rw [Hmay2.out] at hm6
  refine hm6.mono ?_
  rintro e w7 ⟨rfl, g7⟩
  have Hg7 := Lib.hid (gb_none Hg6.out g7)
  clear g7 hm6
  go_wp2_with fail
  refine (awake_any w7 (HT.out.grown Hg7.out)).mono ?_
  rintro e w8 ⟨rfl, g8⟩
  go_wp2_with fail
  go_ret
  exact ⟨rfl, below_of (gb_none Hg7.out g8)⟩
set_option maxHeartbeats 4000000 in
set_option maxRecDepth 100000 in
theorem kinds_1 (a0 a1 : Int) (w : World) (hj : a1 % 7 = 1) (ha1 : 0 ≤ a1) (ha2 : a1 ≤ 255) (HT : Hid (ErrT w)) :
    Calls Tryd.prog 9 #[.int .i64 a0, .int .u8 a1] w fun e w' => e = .returned (.bool true) ∧ Below w.heap.size w w' := by
  have cv := conv9 a1 ha1 ha2
  have Hgn := Lib.hid (get9 a1 ha1 ha2)
  go_enter Tryd.func9, Tryd.ntmps9
  go_wp2_with fail
  refine (num_any 1 _).mono ?_
  rintro e w1 ⟨rfl, g1⟩
  go_wp2_with fail
  refine (num_any 1 _).mono ?_
  rintro e w2 ⟨rfl, g2⟩
  have Hg0 : Hid (w.grownBy ((((w2.alloc (.cells numCells 24)).alloc (.cells (cells7 a0 w1.heap.size w2.heap.size) 24)).alloc (.cells #[.int .i64 1, .int .i64 0, .string ⟨#[]⟩, .slice (some ⟨w1.heap.size, 0, none⟩) 1 1] 24)).alloc (.cells #[.int .u8 (4 + a1 % 200), .int .u8 0, .int .u8 0, .int .u8 0, .int .u8 0, .int .u8 0, .int .u8 0, .int .u8 0, .int .u8 0] 5)) none) := gb_alloc (gb_alloc (gb_alloc (gb_alloc (gb_none (gb_alloc g1 _) g2) _) _) _) _
  have Hb0 : Hid (((((w2.alloc (.cells numCells 24)).alloc (.cells (cells7 a0 w1.heap.size w2.heap.size) 24)).alloc (.cells #[.int .i64 1, .int .i64 0, .string ⟨#[]⟩, .slice (some ⟨w1.heap.size, 0, none⟩) 1 1] 24)).alloc (.cells #[.int .u8 (4 + a1 % 200), .int .u8 0, .int .u8 0, .int .u8 0, .int .u8 0, .int .u8 0, .int .u8 0, .int .u8 0, .int .u8 0] 5)).heap[w2.heap.size + 1 + 1]? = some (.cells #[.int .i64 1, .int .i64 0, .string ⟨#[]⟩, .slice (some ⟨w1.heap.size, 0, none⟩) 1 1] 24 (0, 0))) :=
    (Below.heap_alloc _ _ (w2.heap.size + 1 + 1) (by simp)).trans (by have := heap_alloc_new ((w2.alloc (.cells numCells 24)).alloc (.cells (cells7 a0 w1.heap.size w2.heap.size) 24)) (.cells #[.int .i64 1, .int .i64 0, .string ⟨#[]⟩, .slice (some ⟨w1.heap.size, 0, none⟩) 1 1] 24); simpa using this)
  have Hx0 : Hid (HL ((((w2.alloc (.cells numCells 24)).alloc (.cells (cells7 a0 w1.heap.size w2.heap.size) 24)).alloc (.cells #[.int .i64 1, .int .i64 0, .string ⟨#[]⟩, .slice (some ⟨w1.heap.size, 0, none⟩) 1 1] 24)).alloc (.cells #[.int .u8 (4 + a1 % 200), .int .u8 0, .int .u8 0, .int .u8 0, .int .u8 0, .int .u8 0, .int .u8 0, .int .u8 0, .int .u8 0] 5)) 0 (.slice (some ⟨w1.heap.size, 0, none⟩) 1 1) (seven a0 1).l) := (num_row _ _ (heap_alloc_new w1 (.cells numCells 24))).kept (gb_alloc (gb_alloc (gb_alloc (gb_alloc g2 _) _) _) _)
  clear g1 g2
  go_wp2_with fail
  refine (get_none (S9 a1) ((((w2.alloc (.cells numCells 24)).alloc (.cells (cells7 a0 w1.heap.size w2.heap.size) 24)).alloc (.cells #[.int .i64 1, .int .i64 0, .string ⟨#[]⟩, .slice (some ⟨w1.heap.size, 0, none⟩) 1 1] 24)).alloc (.cells #[.int .u8 (4 + a1 % 200), .int .u8 0, .int .u8 0, .int .u8 0, .int .u8 0, .int .u8 0, .int .u8 0, .int .u8 0, .int .u8 0] 5)) (by exact (by decide : (9 : Nat) ≤ 1099511627776)) Hgn.out (HT.out.grown Hg0.out)).mono ?_
  rintro e w3 ⟨rfl, g3⟩
  have Hg3 := Lib.hid (gb_none Hg0.out g3)
  have Hb3 := Lib.hid ((g3.block _ (Array.getElem?_eq_some_iff.1 Hb0.out).1 (by simp)).trans Hb0.out)
  have Hx3 := Lib.hid (Hx0.out.kept g3)
  obtain ⟨⟨b0, b1, b2, b3⟩, _, hbl⟩ := box4 Hb3.out
  have Hmay : Hid ((seven a0 1).may = false) := by show _ = _; rw [(seven_may a0 1 (by decide)).1]; rfl
  have Hmay2 : Hid ((lst [(seven a0 1)]).may = false) := by show _ = _; rw [(seven_may a0 1 (by decide)).2]; rfl
  clear g3 Hb0 Hx0 Hg0 cv
  go_wp2_with fail
  have hm3 := may_any (seven a0 1) (.slice (some ⟨w1.heap.size, 0, none⟩) 1 1) (w3.alloc (.cells #[.int .i64 0, .int .i64 0, .string ⟨#[]⟩, .slice none 0 0] 24)) (Hx3.out.kept (gb_alloc (gb_refl _ _) _))
  rw [Hmay.out] at hm3
  refine hm3.mono ?_
  rintro e w4 ⟨rfl, g4⟩
  have Hg4 := Lib.hid (gb_none (gb_alloc Hg3.out _) g4)
  have Hb4 := Lib.hid (((gb_none (gb_alloc (gb_refl w3 none) _) g4).block _ hbl (by simp)).trans Hb3.out)
  have Hx4 := Lib.hid (Hx3.out.kept (gb_none (gb_alloc (gb_refl w3 none) _) g4))
  clear g4 b0 b1 b2 b3 hbl hm3
  obtain ⟨⟨b0, b1, b2, b3⟩, _, hbl⟩ := box4 Hb4.out
  go_wp2_with fail
  refine (put_no (seven a0 1) _ _ Hx4.out Hmay.out).mono ?_
  rintro e w5 ⟨rfl, g5⟩
  have Hg5 := Lib.hid (gb_none Hg4.out g5)
  have Hb5 := Lib.hid ((g5.block _ hbl (by simp)).trans Hb4.out)
  have Hx5 := Lib.hid (Hx4.out.kept g5)
  clear g5 b0 b1 b2 b3 hbl
  obtain ⟨⟨b0, b1, b2, b3⟩, _, hbl⟩ := box4 Hb5.out
  go_wp2_with fail
  refine (list_any [(seven a0 1)] (.slice (some ⟨w5.heap.size, 0, none⟩) 1 1) (w5.alloc (.cells #[.int .i64 1, .int .i64 0, .string ⟨#[]⟩, .slice (some ⟨w1.heap.size, 0, none⟩) 1 1] 24)) ?hlx).mono ?_
  case hlx =>
    refine HL.laid [(seven a0 1)] (heap_alloc_new _ _) (Nat.zero_le _) (by simp) 1 ?_
    intro i y hy
    match i, hy with
    | 0, hy =>
      cases hy
      exact ⟨rfl, rfl, rfl, _, _, _, rfl, Hx5.out.kept (gb_alloc (gb_refl _ _) _)⟩
  rintro e w6 ⟨A6, c6, rfl, hl6, g6⟩
  have Hg6 := Lib.hid (gb_none (gb_alloc Hg5.out _) g6)
  have Hl6 := Lib.hid (hl6.low (Nat.zero_le _))
  clear hl6 g6
  go_wp2_with fail
  have hm6 := may_any (lst [(seven a0 1)]) _ w6 Hl6.out
  rw [Hmay2.out] at hm6
  refine hm6.mono ?_
  rintro e w7 ⟨rfl, g7⟩
  have Hg7 := Lib.hid (gb_none Hg6.out g7)
  clear g7 hm6
  go_wp2_with fail
  refine (awake_any w7 (HT.out.grown Hg7.out)).mono ?_
  rintro e w8 ⟨rfl, g8⟩
  go_wp2_with fail
  go_ret
  exact ⟨rfl, below_of (gb_none Hg7.out g8)⟩
set_option maxHeartbeats 4000000 in
set_option maxRecDepth 100000 in
theorem kinds_2 (a0 a1 : Int) (w : World) (hj : a1 % 7 = 2) (ha1 : 0 ≤ a1) (ha2 : a1 ≤ 255) (HT : Hid (ErrT w)) :
    Calls Tryd.prog 9 #[.int .i64 a0, .int .u8 a1] w fun e w' => e = .returned (.bool true) ∧ Below w.heap.size w w' := by
  have cv := conv9 a1 ha1 ha2
  have Hgn := Lib.hid (get9 a1 ha1 ha2)
  go_enter Tryd.func9, Tryd.ntmps9
  go_wp2_with fail
  refine (num_any 1 _).mono ?_
  rintro e w1 ⟨rfl, g1⟩
  go_wp2_with fail
  refine (num_any 1 _).mono ?_
  rintro e w2 ⟨rfl, g2⟩
  have Hg0 : Hid (w.grownBy ((((w2.alloc (.cells numCells 24)).alloc (.cells (cells7 a0 w1.heap.size w2.heap.size) 24)).alloc (.cells #[.int .i64 2, .int .i64 1, .string ⟨#[]⟩, .slice none 0 0] 24)).alloc (.cells #[.int .u8 (4 + a1 % 200), .int .u8 0, .int .u8 0, .int .u8 0, .int .u8 0, .int .u8 0, .int .u8 0, .int .u8 0, .int .u8 0] 5)) none) := gb_alloc (gb_alloc (gb_alloc (gb_alloc (gb_none (gb_alloc g1 _) g2) _) _) _) _
  have Hb0 : Hid (((((w2.alloc (.cells numCells 24)).alloc (.cells (cells7 a0 w1.heap.size w2.heap.size) 24)).alloc (.cells #[.int .i64 2, .int .i64 1, .string ⟨#[]⟩, .slice none 0 0] 24)).alloc (.cells #[.int .u8 (4 + a1 % 200), .int .u8 0, .int .u8 0, .int .u8 0, .int .u8 0, .int .u8 0, .int .u8 0, .int .u8 0, .int .u8 0] 5)).heap[w2.heap.size + 1 + 1]? = some (.cells #[.int .i64 2, .int .i64 1, .string ⟨#[]⟩, .slice none 0 0] 24 (0, 0))) :=
    (Below.heap_alloc _ _ (w2.heap.size + 1 + 1) (by simp)).trans (by have := heap_alloc_new ((w2.alloc (.cells numCells 24)).alloc (.cells (cells7 a0 w1.heap.size w2.heap.size) 24)) (.cells #[.int .i64 2, .int .i64 1, .string ⟨#[]⟩, .slice none 0 0] 24); simpa using this)
  have Hx0 : Hid (HL ((((w2.alloc (.cells numCells 24)).alloc (.cells (cells7 a0 w1.heap.size w2.heap.size) 24)).alloc (.cells #[.int .i64 2, .int .i64 1, .string ⟨#[]⟩, .slice none 0 0] 24)).alloc (.cells #[.int .u8 (4 + a1 % 200), .int .u8 0, .int .u8 0, .int .u8 0, .int .u8 0, .int .u8 0, .int .u8 0, .int .u8 0, .int .u8 0] 5)) 0 (.slice none 0 0) (seven a0 2).l) := .nil _ _
  clear g1 g2
  go_wp2_with fail
  refine (get_none (S9 a1) ((((w2.alloc (.cells numCells 24)).alloc (.cells (cells7 a0 w1.heap.size w2.heap.size) 24)).alloc (.cells #[.int .i64 2, .int .i64 1, .string ⟨#[]⟩, .slice none 0 0] 24)).alloc (.cells #[.int .u8 (4 + a1 % 200), .int .u8 0, .int .u8 0, .int .u8 0, .int .u8 0, .int .u8 0, .int .u8 0, .int .u8 0, .int .u8 0] 5)) (by exact (by decide : (9 : Nat) ≤ 1099511627776)) Hgn.out (HT.out.grown Hg0.out)).mono ?_
  rintro e w3 ⟨rfl, g3⟩
  have Hg3 := Lib.hid (gb_none Hg0.out g3)
  have Hb3 := Lib.hid ((g3.block _ (Array.getElem?_eq_some_iff.1 Hb0.out).1 (by simp)).trans Hb0.out)
  have Hx3 := Lib.hid (Hx0.out.kept g3)
  obtain ⟨⟨b0, b1, b2, b3⟩, _, hbl⟩ := box4 Hb3.out
  have Hmay : Hid ((seven a0 2).may = false) := by show _ = _; rw [(seven_may a0 2 (by decide)).1]; rfl
  have Hmay2 : Hid ((lst [(seven a0 2)]).may = false) := by show _ = _; rw [(seven_may a0 2 (by decide)).2]; rfl
  clear g3 Hb0 Hx0 Hg0 cv
  go_wp2_with fail
  have hm3 := may_any (seven a0 2) (.slice none 0 0) (w3.alloc (.cells #[.int .i64 0, .int .i64 0, .string ⟨#[]⟩, .slice none 0 0] 24)) (Hx3.out.kept (gb_alloc (gb_refl _ _) _))
  rw [Hmay.out] at hm3
  refine hm3.mono ?_
  rintro e w4 ⟨rfl, g4⟩
  have Hg4 := Lib.hid (gb_none (gb_alloc Hg3.out _) g4)
  have Hb4 := Lib.hid (((gb_none (gb_alloc (gb_refl w3 none) _) g4).block _ hbl (by simp)).trans Hb3.out)
  have Hx4 := Lib.hid (Hx3.out.kept (gb_none (gb_alloc (gb_refl w3 none) _) g4))
  clear g4 b0 b1 b2 b3 hbl hm3
  obtain ⟨⟨b0, b1, b2, b3⟩, _, hbl⟩ := box4 Hb4.out
  go_wp2_with fail
  refine (put_no (seven a0 2) _ _ Hx4.out Hmay.out).mono ?_
  rintro e w5 ⟨rfl, g5⟩
  have Hg5 := Lib.hid (gb_none Hg4.out g5)
  have Hb5 := Lib.hid ((g5.block _ hbl (by simp)).trans Hb4.out)
  have Hx5 := Lib.hid (Hx4.out.kept g5)
  clear g5 b0 b1 b2 b3 hbl
  obtain ⟨⟨b0, b1, b2, b3⟩, _, hbl⟩ := box4 Hb5.out
  go_wp2_with fail
  refine (list_any [(seven a0 2)] (.slice (some ⟨w5.heap.size, 0, none⟩) 1 1) (w5.alloc (.cells #[.int .i64 2, .int .i64 1, .string ⟨#[]⟩, .slice none 0 0] 24)) ?hlx).mono ?_
  case hlx =>
    refine HL.laid [(seven a0 2)] (heap_alloc_new _ _) (Nat.zero_le _) (by simp) 1 ?_
    intro i y hy
    match i, hy with
    | 0, hy =>
      cases hy
      exact ⟨rfl, rfl, rfl, _, _, _, rfl, Hx5.out.kept (gb_alloc (gb_refl _ _) _)⟩
  rintro e w6 ⟨A6, c6, rfl, hl6, g6⟩
  have Hg6 := Lib.hid (gb_none (gb_alloc Hg5.out _) g6)
  have Hl6 := Lib.hid (hl6.low (Nat.zero_le _))
  clear hl6 g6
  go_wp2_with fail
  have hm6 := may_any (lst [(seven a0 2)]) _ w6 Hl6.out
  rw [Hmay2.out] at hm6
  refine hm6.mono ?_
  rintro e w7 ⟨rfl, g7⟩
  have Hg7 := Lib.hid (gb_none Hg6.out g7)
  clear g7 hm6
  go_wp2_with fail
  refine (awake_any w7 (HT.out.grown Hg7.out)).mono ?_
  rintro e w8 ⟨rfl, g8⟩
  go_wp2_with fail
  go_ret
  exact ⟨rfl, below_of (gb_none Hg7.out g8)⟩
set_option maxHeartbeats 4000000 in
set_option maxRecDepth 100000 in
theorem kinds_3 (a0 a1 : Int) (w : World) (hj : a1 % 7 = 3) (ha1 : 0 ≤ a1) (ha2 : a1 ≤ 255) (HT : Hid (ErrT w)) :
    Calls Tryd.prog 9 #[.int .i64 a0, .int .u8 a1] w fun e w' => e = .returned (.bool true) ∧ Below w.heap.size w w' := by
  have cv := conv9 a1 ha1 ha2
  have Hgn := Lib.hid (get9 a1 ha1 ha2)
  go_enter Tryd.func9, Tryd.ntmps9
  go_wp2_with fail
  refine (num_any 1 _).mono ?_
  rintro e w1 ⟨rfl, g1⟩
  go_wp2_with fail
  refine (num_any 1 _).mono ?_
  rintro e w2 ⟨rfl, g2⟩
  have Hg0 : Hid (w.grownBy ((((w2.alloc (.cells numCells 24)).alloc (.cells (cells7 a0 w1.heap.size w2.heap.size) 24)).alloc (.cells #[.int .i64 2, .int .i64 0, .string ⟨#[]⟩, .slice (some ⟨w2.heap.size, 0, none⟩) 1 1] 24)).alloc (.cells #[.int .u8 (4 + a1 % 200), .int .u8 0, .int .u8 0, .int .u8 0, .int .u8 0, .int .u8 0, .int .u8 0, .int .u8 0, .int .u8 0] 5)) none) := gb_alloc (gb_alloc (gb_alloc (gb_alloc (gb_none (gb_alloc g1 _) g2) _) _) _) _
  have Hb0 : Hid (((((w2.alloc (.cells numCells 24)).alloc (.cells (cells7 a0 w1.heap.size w2.heap.size) 24)).alloc (.cells #[.int .i64 2, .int .i64 0, .string ⟨#[]⟩, .slice (some ⟨w2.heap.size, 0, none⟩) 1 1] 24)).alloc (.cells #[.int .u8 (4 + a1 % 200), .int .u8 0, .int .u8 0, .int .u8 0, .int .u8 0, .int .u8 0, .int .u8 0, .int .u8 0, .int .u8 0] 5)).heap[w2.heap.size + 1 + 1]? = some (.cells #[.int .i64 2, .int .i64 0, .string ⟨#[]⟩, .slice (some ⟨w2.heap.size, 0, none⟩) 1 1] 24 (0, 0))) :=
    (Below.heap_alloc _ _ (w2.heap.size + 1 + 1) (by simp)).trans (by have := heap_alloc_new ((w2.alloc (.cells numCells 24)).alloc (.cells (cells7 a0 w1.heap.size w2.heap.size) 24)) (.cells #[.int .i64 2, .int .i64 0, .string ⟨#[]⟩, .slice (some ⟨w2.heap.size, 0, none⟩) 1 1] 24); simpa using this)
  have Hx0 : Hid (HL ((((w2.alloc (.cells numCells 24)).alloc (.cells (cells7 a0 w1.heap.size w2.heap.size) 24)).alloc (.cells #[.int .i64 2, .int .i64 0, .string ⟨#[]⟩, .slice (some ⟨w2.heap.size, 0, none⟩) 1 1] 24)).alloc (.cells #[.int .u8 (4 + a1 % 200), .int .u8 0, .int .u8 0, .int .u8 0, .int .u8 0, .int .u8 0, .int .u8 0, .int .u8 0, .int .u8 0] 5)) 0 (.slice (some ⟨w2.heap.size, 0, none⟩) 1 1) (seven a0 3).l) := (num_row _ _ (heap_alloc_new w2 (.cells numCells 24))).kept (gb_alloc (gb_alloc (gb_alloc (gb_refl _ _) _) _) _)
  clear g1 g2
  go_wp2_with fail
  refine (get_none (S9 a1) ((((w2.alloc (.cells numCells 24)).alloc (.cells (cells7 a0 w1.heap.size w2.heap.size) 24)).alloc (.cells #[.int .i64 2, .int .i64 0, .string ⟨#[]⟩, .slice (some ⟨w2.heap.size, 0, none⟩) 1 1] 24)).alloc (.cells #[.int .u8 (4 + a1 % 200), .int .u8 0, .int .u8 0, .int .u8 0, .int .u8 0, .int .u8 0, .int .u8 0, .int .u8 0, .int .u8 0] 5)) (by exact (by decide : (9 : Nat) ≤ 1099511627776)) Hgn.out (HT.out.grown Hg0.out)).mono ?_
  rintro e w3 ⟨rfl, g3⟩
  have Hg3 := Lib.hid (gb_none Hg0.out g3)
  have Hb3 := Lib.hid ((g3.block _ (Array.getElem?_eq_some_iff.1 Hb0.out).1 (by simp)).trans Hb0.out)
  have Hx3 := Lib.hid (Hx0.out.kept g3)
  obtain ⟨⟨b0, b1, b2, b3⟩, _, hbl⟩ := box4 Hb3.out
  have Hmay : Hid ((seven a0 3).may = false) := by show _ = _; rw [(seven_may a0 3 (by decide)).1]; rfl
  have Hmay2 : Hid ((lst [(seven a0 3)]).may = false) := by show _ = _; rw [(seven_may a0 3 (by decide)).2]; rfl
  clear g3 Hb0 Hx0 Hg0 cv
  go_wp2_with fail
  have hm3 := may_any (seven a0 3) (.slice (some ⟨w2.heap.size, 0, none⟩) 1 1) (w3.alloc (.cells #[.int .i64 0, .int .i64 0, .string ⟨#[]⟩, .slice none 0 0] 24)) (Hx3.out.kept (gb_alloc (gb_refl _ _) _))
  rw [Hmay.out] at hm3
  refine hm3.mono ?_
  rintro e w4 ⟨rfl, g4⟩
  have Hg4 := Lib.hid (gb_none (gb_alloc Hg3.out _) g4)
  have Hb4 := Lib.hid (((gb_none (gb_alloc (gb_refl w3 none) _) g4).block _ hbl (by simp)).trans Hb3.out)
  have Hx4 := Lib.hid (Hx3.out.kept (gb_none (gb_alloc (gb_refl w3 none) _) g4))
  clear g4 b0 b1 b2 b3 hbl hm3
  obtain ⟨⟨b0, b1, b2, b3⟩, _, hbl⟩ := box4 Hb4.out
  go_wp2_with fail
  refine (put_no (seven a0 3) _ _ Hx4.out Hmay.out).mono ?_
  rintro e w5 ⟨rfl, g5⟩
  have Hg5 := Lib.hid (gb_none Hg4.out g5)
  have Hb5 := Lib.hid ((g5.block _ hbl (by simp)).trans Hb4.out)
  have Hx5 := Lib.hid (Hx4.out.kept g5)
  clear g5 b0 b1 b2 b3 hbl
  obtain ⟨⟨b0, b1, b2, b3⟩, _, hbl⟩ := box4 Hb5.out
  go_wp2_with fail
  refine (list_any [(seven a0 3)] (.slice (some ⟨w5.heap.size, 0, none⟩) 1 1) (w5.alloc (.cells #[.int .i64 2, .int .i64 0, .string ⟨#[]⟩, .slice (some ⟨w2.heap.size, 0, none⟩) 1 1] 24)) ?hlx).mono ?_
  case hlx =>
    refine HL.laid [(seven a0 3)] (heap_alloc_new _ _) (Nat.zero_le _) (by simp) 1 ?_
    intro i y hy
    match i, hy with
    | 0, hy =>
      cases hy
      exact ⟨rfl, rfl, rfl, _, _, _, rfl, Hx5.out.kept (gb_alloc (gb_refl _ _) _)⟩
  rintro e w6 ⟨A6, c6, rfl, hl6, g6⟩
  have Hg6 := Lib.hid (gb_none (gb_alloc Hg5.out _) g6)
  have Hl6 := Lib.hid (hl6.low (Nat.zero_le _))
  clear hl6 g6
  go_wp2_with fail
  have hm6 := may_any (lst [(seven a0 3)]) _ w6 Hl6.out
  rw [Hmay2.out] at hm6
  refine hm6.mono ?_
  rintro e w7 ⟨rfl, g7⟩
  have Hg7 := Lib.hid (gb_none Hg6.out g7)
  clear g7 hm6
  go_wp2_with fail
  refine (awake_any w7 (HT.out.grown Hg7.out)).mono ?_
  rintro e w8 ⟨rfl, g8⟩
  go_wp2_with fail
  go_ret
  exact ⟨rfl, below_of (gb_none Hg7.out g8)⟩
set_option maxHeartbeats 4000000 in
set_option maxRecDepth 100000 in
theorem kinds_4 (a0 a1 : Int) (w : World) (hj : a1 % 7 = 4) (ha1 : 0 ≤ a1) (ha2 : a1 ≤ 255) (HT : Hid (ErrT w)) :
    Calls Tryd.prog 9 #[.int .i64 a0, .int .u8 a1] w fun e w' => e = .returned (.bool true) ∧ Below w.heap.size w w' := by
  have cv := conv9 a1 ha1 ha2
  have Hgn := Lib.hid (get9 a1 ha1 ha2)
  go_enter Tryd.func9, Tryd.ntmps9
  go_wp2_with fail
  refine (num_any 1 _).mono ?_
  rintro e w1 ⟨rfl, g1⟩
  go_wp2_with fail
  refine (num_any 1 _).mono ?_
  rintro e w2 ⟨rfl, g2⟩
  have Hg0 : Hid (w.grownBy ((((w2.alloc (.cells numCells 24)).alloc (.cells (cells7 a0 w1.heap.size w2.heap.size) 24)).alloc (.cells #[.int .i64 3, .int .i64 1, .string ⟨#[]⟩, .slice none 0 0] 24)).alloc (.cells #[.int .u8 (4 + a1 % 200), .int .u8 0, .int .u8 0, .int .u8 0, .int .u8 0, .int .u8 0, .int .u8 0, .int .u8 0, .int .u8 0] 5)) none) := gb_alloc (gb_alloc (gb_alloc (gb_alloc (gb_none (gb_alloc g1 _) g2) _) _) _) _
  have Hb0 : Hid (((((w2.alloc (.cells numCells 24)).alloc (.cells (cells7 a0 w1.heap.size w2.heap.size) 24)).alloc (.cells #[.int .i64 3, .int .i64 1, .string ⟨#[]⟩, .slice none 0 0] 24)).alloc (.cells #[.int .u8 (4 + a1 % 200), .int .u8 0, .int .u8 0, .int .u8 0, .int .u8 0, .int .u8 0, .int .u8 0, .int .u8 0, .int .u8 0] 5)).heap[w2.heap.size + 1 + 1]? = some (.cells #[.int .i64 3, .int .i64 1, .string ⟨#[]⟩, .slice none 0 0] 24 (0, 0))) :=
    (Below.heap_alloc _ _ (w2.heap.size + 1 + 1) (by simp)).trans (by have := heap_alloc_new ((w2.alloc (.cells numCells 24)).alloc (.cells (cells7 a0 w1.heap.size w2.heap.size) 24)) (.cells #[.int .i64 3, .int .i64 1, .string ⟨#[]⟩, .slice none 0 0] 24); simpa using this)
  have Hx0 : Hid (HL ((((w2.alloc (.cells numCells 24)).alloc (.cells (cells7 a0 w1.heap.size w2.heap.size) 24)).alloc (.cells #[.int .i64 3, .int .i64 1, .string ⟨#[]⟩, .slice none 0 0] 24)).alloc (.cells #[.int .u8 (4 + a1 % 200), .int .u8 0, .int .u8 0, .int .u8 0, .int .u8 0, .int .u8 0, .int .u8 0, .int .u8 0, .int .u8 0] 5)) 0 (.slice none 0 0) (seven a0 4).l) := .nil _ _
  clear g1 g2
  go_wp2_with fail
  refine (get_none (S9 a1) ((((w2.alloc (.cells numCells 24)).alloc (.cells (cells7 a0 w1.heap.size w2.heap.size) 24)).alloc (.cells #[.int .i64 3, .int .i64 1, .string ⟨#[]⟩, .slice none 0 0] 24)).alloc (.cells #[.int .u8 (4 + a1 % 200), .int .u8 0, .int .u8 0, .int .u8 0, .int .u8 0, .int .u8 0, .int .u8 0, .int .u8 0, .int .u8 0] 5)) (by exact (by decide : (9 : Nat) ≤ 1099511627776)) Hgn.out (HT.out.grown Hg0.out)).mono ?_
  rintro e w3 ⟨rfl, g3⟩
  have Hg3 := Lib.hid (gb_none Hg0.out g3)
  have Hb3 := Lib.hid ((g3.block _ (Array.getElem?_eq_some_iff.1 Hb0.out).1 (by simp)).trans Hb0.out)
  have Hx3 := Lib.hid (Hx0.out.kept g3)
  obtain ⟨⟨b0, b1, b2, b3⟩, _, hbl⟩ := box4 Hb3.out
  have Hmay : Hid ((seven a0 4).may = false) := by show _ = _; rw [(seven_may a0 4 (by decide)).1]; rfl
  have Hmay2 : Hid ((lst [(seven a0 4)]).may = false) := by show _ = _; rw [(seven_may a0 4 (by decide)).2]; rfl
  clear g3 Hb0 Hx0 Hg0 cv
  go_wp2_with fail
  have hm3 := may_any (seven a0 4) (.slice none 0 0) (w3.alloc (.cells #[.int .i64 0, .int .i64 0, .string ⟨#[]⟩, .slice none 0 0] 24)) (Hx3.out.kept (gb_alloc (gb_refl _ _) _))
  rw [Hmay.out] at hm3
  refine hm3.mono ?_
  rintro e w4 ⟨rfl, g4⟩
  have Hg4 := Lib.hid (gb_none (gb_alloc Hg3.out _) g4)
  have Hb4 := Lib.hid (((gb_none (gb_alloc (gb_refl w3 none) _) g4).block _ hbl (by simp)).trans Hb3.out)
  have Hx4 := Lib.hid (Hx3.out.kept (gb_none (gb_alloc (gb_refl w3 none) _) g4))
  clear g4 b0 b1 b2 b3 hbl hm3
  obtain ⟨⟨b0, b1, b2, b3⟩, _, hbl⟩ := box4 Hb4.out
  go_wp2_with fail
  refine (put_no (seven a0 4) _ _ Hx4.out Hmay.out).mono ?_
  rintro e w5 ⟨rfl, g5⟩
  have Hg5 := Lib.hid (gb_none Hg4.out g5)
  have Hb5 := Lib.hid ((g5.block _ hbl (by simp)).trans Hb4.out)
  have Hx5 := Lib.hid (Hx4.out.kept g5)
  clear g5 b0 b1 b2 b3 hbl
  obtain ⟨⟨b0, b1, b2, b3⟩, _, hbl⟩ := box4 Hb5.out
  go_wp2_with fail
  refine (list_any [(seven a0 4)] (.slice (some ⟨w5.heap.size, 0, none⟩) 1 1) (w5.alloc (.cells #[.int .i64 3, .int .i64 1, .string ⟨#[]⟩, .slice none 0 0] 24)) ?hlx).mono ?_
  case hlx =>
    refine HL.laid [(seven a0 4)] (heap_alloc_new _ _) (Nat.zero_le _) (by simp) 1 ?_
    intro i y hy
    match i, hy with
    | 0, hy =>
      cases hy
      exact ⟨rfl, rfl, rfl, _, _, _, rfl, Hx5.out.kept (gb_alloc (gb_refl _ _) _)⟩
  rintro e w6 ⟨A6, c6, rfl, hl6, g6⟩
  have Hg6 := Lib.hid (gb_none (gb_alloc Hg5.out _) g6)
  have Hl6 := Lib.hid (hl6.low (Nat.zero_le _))
  clear hl6 g6
  go_wp2_with fail
  have hm6 := may_any (lst [(seven a0 4)]) _ w6 Hl6.out
  rw [Hmay2.out] at hm6
  refine hm6.mono ?_
  rintro e w7 ⟨rfl, g7⟩
  have Hg7 := Lib.hid (gb_none Hg6.out g7)
  clear g7 hm6
  go_wp2_with fail
  refine (awake_any w7 (HT.out.grown Hg7.out)).mono ?_
  rintro e w8 ⟨rfl, g8⟩
  go_wp2_with fail
  go_ret
  exact ⟨rfl, below_of (gb_none Hg7.out g8)⟩
set_option maxHeartbeats 4000000 in
set_option maxRecDepth 100000 in
theorem kinds_5 (a0 a1 : Int) (w : World) (hj : a1 % 7 = 5) (ha1 : 0 ≤ a1) (ha2 : a1 ≤ 255) (HT : Hid (ErrT w)) :
    Calls Tryd.prog 9 #[.int .i64 a0, .int .u8 a1] w fun e w' => e = .returned (.bool true) ∧ Below w.heap.size w w' := by
  have cv := conv9 a1 ha1 ha2
  have Hgn := Lib.hid (get9 a1 ha1 ha2)
  go_enter Tryd.func9, Tryd.ntmps9
  go_wp2_with fail
  refine (num_any 1 _).mono ?_
  rintro e w1 ⟨rfl, g1⟩
  go_wp2_with fail
  refine (num_any 1 _).mono ?_
  rintro e w2 ⟨rfl, g2⟩
  have Hg0 : Hid (w.grownBy ((((w2.alloc (.cells numCells 24)).alloc (.cells (cells7 a0 w1.heap.size w2.heap.size) 24)).alloc (.cells #[.int .i64 3, .int .i64 0, .string ⟨#[120]⟩, .slice none 0 0] 24)).alloc (.cells #[.int .u8 (4 + a1 % 200), .int .u8 0, .int .u8 0, .int .u8 0, .int .u8 0, .int .u8 0, .int .u8 0, .int .u8 0, .int .u8 0] 5)) none) := gb_alloc (gb_alloc (gb_alloc (gb_alloc (gb_none (gb_alloc g1 _) g2) _) _) _) _
  have Hb0 : Hid (((((w2.alloc (.cells numCells 24)).alloc (.cells (cells7 a0 w1.heap.size w2.heap.size) 24)).alloc (.cells #[.int .i64 3, .int .i64 0, .string ⟨#[120]⟩, .slice none 0 0] 24)).alloc (.cells #[.int .u8 (4 + a1 % 200), .int .u8 0, .int .u8 0, .int .u8 0, .int .u8 0, .int .u8 0, .int .u8 0, .int .u8 0, .int .u8 0] 5)).heap[w2.heap.size + 1 + 1]? = some (.cells #[.int .i64 3, .int .i64 0, .string ⟨#[120]⟩, .slice none 0 0] 24 (0, 0))) :=
    (Below.heap_alloc _ _ (w2.heap.size + 1 + 1) (by simp)).trans (by have := heap_alloc_new ((w2.alloc (.cells numCells 24)).alloc (.cells (cells7 a0 w1.heap.size w2.heap.size) 24)) (.cells #[.int .i64 3, .int .i64 0, .string ⟨#[120]⟩, .slice none 0 0] 24); simpa using this)
  have Hx0 : Hid (HL ((((w2.alloc (.cells numCells 24)).alloc (.cells (cells7 a0 w1.heap.size w2.heap.size) 24)).alloc (.cells #[.int .i64 3, .int .i64 0, .string ⟨#[120]⟩, .slice none 0 0] 24)).alloc (.cells #[.int .u8 (4 + a1 % 200), .int .u8 0, .int .u8 0, .int .u8 0, .int .u8 0, .int .u8 0, .int .u8 0, .int .u8 0, .int .u8 0] 5)) 0 (.slice none 0 0) (seven a0 5).l) := .nil _ _
  clear g1 g2
  go_wp2_with fail
  refine (get_none (S9 a1) ((((w2.alloc (.cells numCells 24)).alloc (.cells (cells7 a0 w1.heap.size w2.heap.size) 24)).alloc (.cells #[.int .i64 3, .int .i64 0, .string ⟨#[120]⟩, .slice none 0 0] 24)).alloc (.cells #[.int .u8 (4 + a1 % 200), .int .u8 0, .int .u8 0, .int .u8 0, .int .u8 0, .int .u8 0, .int .u8 0, .int .u8 0, .int .u8 0] 5)) (by exact (by decide : (9 : Nat) ≤ 1099511627776)) Hgn.out (HT.out.grown Hg0.out)).mono ?_
  rintro e w3 ⟨rfl, g3⟩
  have Hg3 := Lib.hid (gb_none Hg0.out g3)
  have Hb3 := Lib.hid ((g3.block _ (Array.getElem?_eq_some_iff.1 Hb0.out).1 (by simp)).trans Hb0.out)
  have Hx3 := Lib.hid (Hx0.out.kept g3)
  obtain ⟨⟨b0, b1, b2, b3⟩, _, hbl⟩ := box4 Hb3.out
  have Hmay : Hid ((seven a0 5).may = false) := by show _ = _; rw [(seven_may a0 5 (by decide)).1]; rfl
  have Hmay2 : Hid ((lst [(seven a0 5)]).may = false) := by show _ = _; rw [(seven_may a0 5 (by decide)).2]; rfl
  clear g3 Hb0 Hx0 Hg0 cv
  go_wp2_with fail
  have hm3 := may_any (seven a0 5) (.slice none 0 0) (w3.alloc (.cells #[.int .i64 0, .int .i64 0, .string ⟨#[]⟩, .slice none 0 0] 24)) (Hx3.out.kept (gb_alloc (gb_refl _ _) _))
  rw [Hmay.out] at hm3
  refine hm3.mono ?_
  rintro e w4 ⟨rfl, g4⟩
  have Hg4 := Lib.hid (gb_none (gb_alloc Hg3.out _) g4)
  have Hb4 := Lib.hid (((gb_none (gb_alloc (gb_refl w3 none) _) g4).block _ hbl (by simp)).trans Hb3.out)
  have Hx4 := Lib.hid (Hx3.out.kept (gb_none (gb_alloc (gb_refl w3 none) _) g4))
  clear g4 b0 b1 b2 b3 hbl hm3
  obtain ⟨⟨b0, b1, b2, b3⟩, _, hbl⟩ := box4 Hb4.out
  go_wp2_with fail
  refine (put_no (seven a0 5) _ _ Hx4.out Hmay.out).mono ?_
  rintro e w5 ⟨rfl, g5⟩
  have Hg5 := Lib.hid (gb_none Hg4.out g5)
  have Hb5 := Lib.hid ((g5.block _ hbl (by simp)).trans Hb4.out)
  have Hx5 := Lib.hid (Hx4.out.kept g5)
  clear g5 b0 b1 b2 b3 hbl
  obtain ⟨⟨b0, b1, b2, b3⟩, _, hbl⟩ := box4 Hb5.out
  go_wp2_with fail
  refine (list_any [(seven a0 5)] (.slice (some ⟨w5.heap.size, 0, none⟩) 1 1) (w5.alloc (.cells #[.int .i64 3, .int .i64 0, .string ⟨#[120]⟩, .slice none 0 0] 24)) ?hlx).mono ?_
  case hlx =>
    refine HL.laid [(seven a0 5)] (heap_alloc_new _ _) (Nat.zero_le _) (by simp) 1 ?_
    intro i y hy
    match i, hy with
    | 0, hy =>
      cases hy
      exact ⟨rfl, rfl, rfl, _, _, _, rfl, Hx5.out.kept (gb_alloc (gb_refl _ _) _)⟩
  rintro e w6 ⟨A6, c6, rfl, hl6, g6⟩
  have Hg6 := Lib.hid (gb_none (gb_alloc Hg5.out _) g6)
  have Hl6 := Lib.hid (hl6.low (Nat.zero_le _))
  clear hl6 g6
  go_wp2_with fail
  have hm6 := may_any (lst [(seven a0 5)]) _ w6 Hl6.out
  rw [Hmay2.out] at hm6
  refine hm6.mono ?_
  rintro e w7 ⟨rfl, g7⟩
  have Hg7 := Lib.hid (gb_none Hg6.out g7)
  clear g7 hm6
  go_wp2_with fail
  refine (awake_any w7 (HT.out.grown Hg7.out)).mono ?_
  rintro e w8 ⟨rfl, g8⟩
  go_wp2_with fail
  go_ret
  exact ⟨rfl, below_of (gb_none Hg7.out g8)⟩
set_option maxHeartbeats 4000000 in
set_option maxRecDepth 100000 in
theorem kinds_yes (a0 a1 : Int) (w : World) (hj : a1 % 7 = 6) (ha1 : 0 ≤ a1) (ha2 : a1 ≤ 255) (h1 : 1 ≤ a0) (h2 : a0 ≤ 3) (HT : Hid (ErrT w)) :
    Calls Tryd.prog 9 #[.int .i64 a0, .int .u8 a1] w fun e w' => e = .returned (.bool true) ∧ Below w.heap.size w w' := by
  have cv := conv9 a1 ha1 ha2
  have Hgn := Lib.hid (get9 a1 ha1 ha2)
  have t1 : decide (1 ≤ a0) = true := decide_eq_true h1
  have t2 : decide (a0 ≤ 3) = true := decide_eq_true h2
  go_enter Tryd.func9, Tryd.ntmps9
  go_wp2_with fail
  refine (num_any 1 _).mono ?_
  rintro e w1 ⟨rfl, g1⟩
  go_wp2_with fail
  refine (num_any 1 _).mono ?_
  rintro e w2 ⟨rfl, g2⟩
  have Hg0 : Hid (w.grownBy ((((w2.alloc (.cells numCells 24)).alloc (.cells (cells7 a0 w1.heap.size w2.heap.size) 24)).alloc (.cells #[.int .i64 a0, .int .i64 0, .string ⟨#[]⟩, .slice none 0 0] 24)).alloc (.cells #[.int .u8 (4 + a1 % 200), .int .u8 0, .int .u8 0, .int .u8 0, .int .u8 0, .int .u8 0, .int .u8 0, .int .u8 0, .int .u8 0] 5)) none) := gb_alloc (gb_alloc (gb_alloc (gb_alloc (gb_none (gb_alloc g1 _) g2) _) _) _) _
  have Hb0 : Hid (((((w2.alloc (.cells numCells 24)).alloc (.cells (cells7 a0 w1.heap.size w2.heap.size) 24)).alloc (.cells #[.int .i64 a0, .int .i64 0, .string ⟨#[]⟩, .slice none 0 0] 24)).alloc (.cells #[.int .u8 (4 + a1 % 200), .int .u8 0, .int .u8 0, .int .u8 0, .int .u8 0, .int .u8 0, .int .u8 0, .int .u8 0, .int .u8 0] 5)).heap[w2.heap.size + 1 + 1]? = some (.cells #[.int .i64 a0, .int .i64 0, .string ⟨#[]⟩, .slice none 0 0] 24 (0, 0))) :=
    (Below.heap_alloc _ _ (w2.heap.size + 1 + 1) (by simp)).trans (by have := heap_alloc_new ((w2.alloc (.cells numCells 24)).alloc (.cells (cells7 a0 w1.heap.size w2.heap.size) 24)) (.cells #[.int .i64 a0, .int .i64 0, .string ⟨#[]⟩, .slice none 0 0] 24); simpa using this)
  have Hx0 : Hid (HL ((((w2.alloc (.cells numCells 24)).alloc (.cells (cells7 a0 w1.heap.size w2.heap.size) 24)).alloc (.cells #[.int .i64 a0, .int .i64 0, .string ⟨#[]⟩, .slice none 0 0] 24)).alloc (.cells #[.int .u8 (4 + a1 % 200), .int .u8 0, .int .u8 0, .int .u8 0, .int .u8 0, .int .u8 0, .int .u8 0, .int .u8 0, .int .u8 0] 5)) 0 (.slice none 0 0) (seven a0 6).l) := .nil _ _
  clear g1 g2
  go_wp2_with fail
  refine (get_none (S9 a1) ((((w2.alloc (.cells numCells 24)).alloc (.cells (cells7 a0 w1.heap.size w2.heap.size) 24)).alloc (.cells #[.int .i64 a0, .int .i64 0, .string ⟨#[]⟩, .slice none 0 0] 24)).alloc (.cells #[.int .u8 (4 + a1 % 200), .int .u8 0, .int .u8 0, .int .u8 0, .int .u8 0, .int .u8 0, .int .u8 0, .int .u8 0, .int .u8 0] 5)) (by exact (by decide : (9 : Nat) ≤ 1099511627776)) Hgn.out (HT.out.grown Hg0.out)).mono ?_
  rintro e w3 ⟨rfl, g3⟩
  have Hg3 := Lib.hid (gb_none Hg0.out g3)
  have Hb3 := Lib.hid ((g3.block _ (Array.getElem?_eq_some_iff.1 Hb0.out).1 (by simp)).trans Hb0.out)
  have Hx3 := Lib.hid (Hx0.out.kept g3)
  obtain ⟨⟨b0, b1, b2, b3⟩, _, hbl⟩ := box4 Hb3.out
  have Hmay : Hid ((seven a0 6).may = true) := by show _ = _; rw [(seven_may a0 6 (by decide)).1]; exact sevenMay_yes a0 h1 h2
  have Hmay2 : Hid ((lst [(seven a0 6)]).may = true) := by show _ = _; rw [(seven_may a0 6 (by decide)).2]; exact sevenMay_yes a0 h1 h2
  clear g3 Hb0 Hx0 Hg0 cv
  go_wp2_with fail
  have hm3 := may_any (seven a0 6) (.slice none 0 0) (w3.alloc (.cells #[.int .i64 0, .int .i64 0, .string ⟨#[]⟩, .slice none 0 0] 24)) (Hx3.out.kept (gb_alloc (gb_refl _ _) _))
  rw [Hmay.out] at hm3
  refine hm3.mono ?_
  rintro e w4 ⟨rfl, g4⟩
  have Hg4 := Lib.hid (gb_none (gb_alloc Hg3.out _) g4)
  have Hb4 := Lib.hid (((gb_none (gb_alloc (gb_refl w3 none) _) g4).block _ hbl (by simp)).trans Hb3.out)
  have Hx4 := Lib.hid (Hx3.out.kept (gb_none (gb_alloc (gb_refl w3 none) _) g4))
  clear g4 b0 b1 b2 b3 hbl hm3
  obtain ⟨⟨b0, b1, b2, b3⟩, _, hbl⟩ := box4 Hb4.out
  go_wp2_with fail
  refine (put_yes (seven a0 6) _ _ Hx4.out (by exact Hmay.out) (by rw [seven_len]; split <;> decide)).mono ?_
  rintro e w5 ⟨rfl, g5⟩
  obtain ⟨S, HS⟩ : ∃ S : ByteArray, Hid ((⟨(seven a0 6).enc.toArray⟩ : ByteArray) = S) := ⟨_, rfl⟩
  have hS : S.size ≠ 0 := by rw [← HS.out]; exact seven_ne a0
  have hS1 := list_ne hS
  have hS2 : (!S.toList.isEmpty) = true := by rw [hS1]; rfl
  rw [HS.out]
  clear hS
  have Hg5 := Lib.hid (gb_none Hg4.out g5)
  have Hb5 := Lib.hid ((g5.block _ hbl (by simp)).trans Hb4.out)
  have Hx5 := Lib.hid (Hx4.out.kept g5)
  clear g5 b0 b1 b2 b3 hbl
  obtain ⟨⟨b0, b1, b2, b3⟩, _, hbl⟩ := box4 Hb5.out
  go_wp2_with fail
  refine (list_any [(seven a0 6)] (.slice (some ⟨w5.heap.size, 0, none⟩) 1 1) (w5.alloc (.cells #[.int .i64 a0, .int .i64 0, .string ⟨#[]⟩, .slice none 0 0] 24)) ?hlx).mono ?_
  case hlx =>
    refine HL.laid [(seven a0 6)] (heap_alloc_new _ _) (Nat.zero_le _) (by simp) 1 ?_
    intro i y hy
    match i, hy with
    | 0, hy =>
      cases hy
      exact ⟨rfl, rfl, rfl, _, _, _, rfl, Hx5.out.kept (gb_alloc (gb_refl _ _) _)⟩
  rintro e w6 ⟨A6, c6, rfl, hl6, g6⟩
  have Hg6 := Lib.hid (gb_none (gb_alloc Hg5.out _) g6)
  have Hl6 := Lib.hid (hl6.low (Nat.zero_le _))
  clear hl6 g6
  go_wp2_with fail
  have hm6 := may_any (lst [(seven a0 6)]) _ w6 Hl6.out
  rw [Hmay2.out] at hm6
  refine hm6.mono ?_
  rintro e w7 ⟨rfl, g7⟩
  have Hg7 := Lib.hid (gb_none Hg6.out g7)
  clear g7 hm6
  go_wp2_with fail
  refine (awake_any w7 (HT.out.grown Hg7.out)).mono ?_
  rintro e w8 ⟨rfl, g8⟩
  go_wp2_with fail
  go_ret
  exact ⟨rfl, below_of (gb_none Hg7.out g8)⟩
set_option maxHeartbeats 4000000 in
set_option maxRecDepth 100000 in
theorem kinds_no1 (a0 a1 : Int) (w : World) (hj : a1 % 7 = 6) (ha1 : 0 ≤ a1) (ha2 : a1 ≤ 255) (h : a0 < 1 ∨ 3 < a0) (h1 : a0 < 1) (HT : Hid (ErrT w)) :
    Calls Tryd.prog 9 #[.int .i64 a0, .int .u8 a1] w fun e w' => e = .returned (.bool true) ∧ Below w.heap.size w w' := by
  have cv := conv9 a1 ha1 ha2
  have Hgn := Lib.hid (get9 a1 ha1 ha2)
  have t1 : decide (1 ≤ a0) = false := decide_eq_false (by omega)
  go_enter Tryd.func9, Tryd.ntmps9
  go_wp2_with fail
  refine (num_any 1 _).mono ?_
  rintro e w1 ⟨rfl, g1⟩
  go_wp2_with fail
  refine (num_any 1 _).mono ?_
  rintro e w2 ⟨rfl, g2⟩
  have Hg0 : Hid (w.grownBy ((((w2.alloc (.cells numCells 24)).alloc (.cells (cells7 a0 w1.heap.size w2.heap.size) 24)).alloc (.cells #[.int .i64 a0, .int .i64 0, .string ⟨#[]⟩, .slice none 0 0] 24)).alloc (.cells #[.int .u8 (4 + a1 % 200), .int .u8 0, .int .u8 0, .int .u8 0, .int .u8 0, .int .u8 0, .int .u8 0, .int .u8 0, .int .u8 0] 5)) none) := gb_alloc (gb_alloc (gb_alloc (gb_alloc (gb_none (gb_alloc g1 _) g2) _) _) _) _
  have Hb0 : Hid (((((w2.alloc (.cells numCells 24)).alloc (.cells (cells7 a0 w1.heap.size w2.heap.size) 24)).alloc (.cells #[.int .i64 a0, .int .i64 0, .string ⟨#[]⟩, .slice none 0 0] 24)).alloc (.cells #[.int .u8 (4 + a1 % 200), .int .u8 0, .int .u8 0, .int .u8 0, .int .u8 0, .int .u8 0, .int .u8 0, .int .u8 0, .int .u8 0] 5)).heap[w2.heap.size + 1 + 1]? = some (.cells #[.int .i64 a0, .int .i64 0, .string ⟨#[]⟩, .slice none 0 0] 24 (0, 0))) :=
    (Below.heap_alloc _ _ (w2.heap.size + 1 + 1) (by simp)).trans (by have := heap_alloc_new ((w2.alloc (.cells numCells 24)).alloc (.cells (cells7 a0 w1.heap.size w2.heap.size) 24)) (.cells #[.int .i64 a0, .int .i64 0, .string ⟨#[]⟩, .slice none 0 0] 24); simpa using this)
  have Hx0 : Hid (HL ((((w2.alloc (.cells numCells 24)).alloc (.cells (cells7 a0 w1.heap.size w2.heap.size) 24)).alloc (.cells #[.int .i64 a0, .int .i64 0, .string ⟨#[]⟩, .slice none 0 0] 24)).alloc (.cells #[.int .u8 (4 + a1 % 200), .int .u8 0, .int .u8 0, .int .u8 0, .int .u8 0, .int .u8 0, .int .u8 0, .int .u8 0, .int .u8 0] 5)) 0 (.slice none 0 0) (seven a0 6).l) := .nil _ _
  clear g1 g2
  go_wp2_with fail
  refine (get_none (S9 a1) ((((w2.alloc (.cells numCells 24)).alloc (.cells (cells7 a0 w1.heap.size w2.heap.size) 24)).alloc (.cells #[.int .i64 a0, .int .i64 0, .string ⟨#[]⟩, .slice none 0 0] 24)).alloc (.cells #[.int .u8 (4 + a1 % 200), .int .u8 0, .int .u8 0, .int .u8 0, .int .u8 0, .int .u8 0, .int .u8 0, .int .u8 0, .int .u8 0] 5)) (by exact (by decide : (9 : Nat) ≤ 1099511627776)) Hgn.out (HT.out.grown Hg0.out)).mono ?_
  rintro e w3 ⟨rfl, g3⟩
  have Hg3 := Lib.hid (gb_none Hg0.out g3)
  have Hb3 := Lib.hid ((g3.block _ (Array.getElem?_eq_some_iff.1 Hb0.out).1 (by simp)).trans Hb0.out)
  have Hx3 := Lib.hid (Hx0.out.kept g3)
  obtain ⟨⟨b0, b1, b2, b3⟩, _, hbl⟩ := box4 Hb3.out
  have Hmay : Hid ((seven a0 6).may = false) := by show _ = _; rw [(seven_may a0 6 (by decide)).1]; exact sevenMay_no a0 h
  have Hmay2 : Hid ((lst [(seven a0 6)]).may = false) := by show _ = _; rw [(seven_may a0 6 (by decide)).2]; exact sevenMay_no a0 h
  clear g3 Hb0 Hx0 Hg0 cv
  go_wp2_with fail
  have hm3 := may_any (seven a0 6) (.slice none 0 0) (w3.alloc (.cells #[.int .i64 0, .int .i64 0, .string ⟨#[]⟩, .slice none 0 0] 24)) (Hx3.out.kept (gb_alloc (gb_refl _ _) _))
  rw [Hmay.out] at hm3
  refine hm3.mono ?_
  rintro e w4 ⟨rfl, g4⟩
  have Hg4 := Lib.hid (gb_none (gb_alloc Hg3.out _) g4)
  have Hb4 := Lib.hid (((gb_none (gb_alloc (gb_refl w3 none) _) g4).block _ hbl (by simp)).trans Hb3.out)
  have Hx4 := Lib.hid (Hx3.out.kept (gb_none (gb_alloc (gb_refl w3 none) _) g4))
  clear g4 b0 b1 b2 b3 hbl hm3
  obtain ⟨⟨b0, b1, b2, b3⟩, _, hbl⟩ := box4 Hb4.out
  go_wp2_with fail
  refine (put_no (seven a0 6) _ _ Hx4.out Hmay.out).mono ?_
  rintro e w5 ⟨rfl, g5⟩
  have Hg5 := Lib.hid (gb_none Hg4.out g5)
  have Hb5 := Lib.hid ((g5.block _ hbl (by simp)).trans Hb4.out)
  have Hx5 := Lib.hid (Hx4.out.kept g5)
  clear g5 b0 b1 b2 b3 hbl
  obtain ⟨⟨b0, b1, b2, b3⟩, _, hbl⟩ := box4 Hb5.out
  go_wp2_with fail
  refine (list_any [(seven a0 6)] (.slice (some ⟨w5.heap.size, 0, none⟩) 1 1) (w5.alloc (.cells #[.int .i64 a0, .int .i64 0, .string ⟨#[]⟩, .slice none 0 0] 24)) ?hlx).mono ?_
  case hlx =>
    refine HL.laid [(seven a0 6)] (heap_alloc_new _ _) (Nat.zero_le _) (by simp) 1 ?_
    intro i y hy
    match i, hy with
    | 0, hy =>
      cases hy
      exact ⟨rfl, rfl, rfl, _, _, _, rfl, Hx5.out.kept (gb_alloc (gb_refl _ _) _)⟩
  rintro e w6 ⟨A6, c6, rfl, hl6, g6⟩
  have Hg6 := Lib.hid (gb_none (gb_alloc Hg5.out _) g6)
  have Hl6 := Lib.hid (hl6.low (Nat.zero_le _))
  clear hl6 g6
  go_wp2_with fail
  have hm6 := may_any (lst [(seven a0 6)]) _ w6 Hl6.out
  rw [Hmay2.out] at hm6
  refine hm6.mono ?_
  rintro e w7 ⟨rfl, g7⟩
  have Hg7 := Lib.hid (gb_none Hg6.out g7)
  clear g7 hm6
  go_wp2_with fail
  refine (awake_any w7 (HT.out.grown Hg7.out)).mono ?_
  rintro e w8 ⟨rfl, g8⟩
  go_wp2_with fail
  go_ret
  exact ⟨rfl, below_of (gb_none Hg7.out g8)⟩
set_option maxHeartbeats 4000000 in
set_option maxRecDepth 100000 in
theorem kinds_no3 (a0 a1 : Int) (w : World) (hj : a1 % 7 = 6) (ha1 : 0 ≤ a1) (ha2 : a1 ≤ 255) (h : a0 < 1 ∨ 3 < a0) (h1 : 1 ≤ a0) (h3 : 3 < a0) (HT : Hid (ErrT w)) :
    Calls Tryd.prog 9 #[.int .i64 a0, .int .u8 a1] w fun e w' => e = .returned (.bool true) ∧ Below w.heap.size w w' := by
  have cv := conv9 a1 ha1 ha2
  have Hgn := Lib.hid (get9 a1 ha1 ha2)
  have t1 : decide (1 ≤ a0) = true := decide_eq_true h1
  have t2 : decide (a0 ≤ 3) = false := decide_eq_false (by omega)
  go_enter Tryd.func9, Tryd.ntmps9
  go_wp2_with fail
  refine (num_any 1 _).mono ?_
  rintro e w1 ⟨rfl, g1⟩
  go_wp2_with fail
  refine (num_any 1 _).mono ?_
  rintro e w2 ⟨rfl, g2⟩
  have Hg0 : Hid (w.grownBy ((((w2.alloc (.cells numCells 24)).alloc (.cells (cells7 a0 w1.heap.size w2.heap.size) 24)).alloc (.cells #[.int .i64 a0, .int .i64 0, .string ⟨#[]⟩, .slice none 0 0] 24)).alloc (.cells #[.int .u8 (4 + a1 % 200), .int .u8 0, .int .u8 0, .int .u8 0, .int .u8 0, .int .u8 0, .int .u8 0, .int .u8 0, .int .u8 0] 5)) none) := gb_alloc (gb_alloc (gb_alloc (gb_alloc (gb_none (gb_alloc g1 _) g2) _) _) _) _
  have Hb0 : Hid (((((w2.alloc (.cells numCells 24)).alloc (.cells (cells7 a0 w1.heap.size w2.heap.size) 24)).alloc (.cells #[.int .i64 a0, .int .i64 0, .string ⟨#[]⟩, .slice none 0 0] 24)).alloc (.cells #[.int .u8 (4 + a1 % 200), .int .u8 0, .int .u8 0, .int .u8 0, .int .u8 0, .int .u8 0, .int .u8 0, .int .u8 0, .int .u8 0] 5)).heap[w2.heap.size + 1 + 1]? = some (.cells #[.int .i64 a0, .int .i64 0, .string ⟨#[]⟩, .slice none 0 0] 24 (0, 0))) :=
    (Below.heap_alloc _ _ (w2.heap.size + 1 + 1) (by simp)).trans (by have := heap_alloc_new ((w2.alloc (.cells numCells 24)).alloc (.cells (cells7 a0 w1.heap.size w2.heap.size) 24)) (.cells #[.int .i64 a0, .int .i64 0, .string ⟨#[]⟩, .slice none 0 0] 24); simpa using this)
  have Hx0 : Hid (HL ((((w2.alloc (.cells numCells 24)).alloc (.cells (cells7 a0 w1.heap.size w2.heap.size) 24)).alloc (.cells #[.int .i64 a0, .int .i64 0, .string ⟨#[]⟩, .slice none 0 0] 24)).alloc (.cells #[.int .u8 (4 + a1 % 200), .int .u8 0, .int .u8 0, .int .u8 0, .int .u8 0, .int .u8 0, .int .u8 0, .int .u8 0, .int .u8 0] 5)) 0 (.slice none 0 0) (seven a0 6).l) := .nil _ _
  clear g1 g2
  go_wp2_with fail
  refine (get_none (S9 a1) ((((w2.alloc (.cells numCells 24)).alloc (.cells (cells7 a0 w1.heap.size w2.heap.size) 24)).alloc (.cells #[.int .i64 a0, .int .i64 0, .string ⟨#[]⟩, .slice none 0 0] 24)).alloc (.cells #[.int .u8 (4 + a1 % 200), .int .u8 0, .int .u8 0, .int .u8 0, .int .u8 0, .int .u8 0, .int .u8 0, .int .u8 0, .int .u8 0] 5)) (by exact (by decide : (9 : Nat) ≤ 1099511627776)) Hgn.out (HT.out.grown Hg0.out)).mono ?_
  rintro e w3 ⟨rfl, g3⟩
  have Hg3 := Lib.hid (gb_none Hg0.out g3)
  have Hb3 := Lib.hid ((g3.block _ (Array.getElem?_eq_some_iff.1 Hb0.out).1 (by simp)).trans Hb0.out)
  have Hx3 := Lib.hid (Hx0.out.kept g3)
  obtain ⟨⟨b0, b1, b2, b3⟩, _, hbl⟩ := box4 Hb3.out
  have Hmay : Hid ((seven a0 6).may = false) := by show _ = _; rw [(seven_may a0 6 (by decide)).1]; exact sevenMay_no a0 h
  have Hmay2 : Hid ((lst [(seven a0 6)]).may = false) := by show _ = _; rw [(seven_may a0 6 (by decide)).2]; exact sevenMay_no a0 h
  clear g3 Hb0 Hx0 Hg0 cv
  go_wp2_with fail
  have hm3 := may_any (seven a0 6) (.slice none 0 0) (w3.alloc (.cells #[.int .i64 0, .int .i64 0, .string ⟨#[]⟩, .slice none 0 0] 24)) (Hx3.out.kept (gb_alloc (gb_refl _ _) _))
  rw [Hmay.out] at hm3
  refine hm3.mono ?_
  rintro e w4 ⟨rfl, g4⟩
  have Hg4 := Lib.hid (gb_none (gb_alloc Hg3.out _) g4)
  have Hb4 := Lib.hid (((gb_none (gb_alloc (gb_refl w3 none) _) g4).block _ hbl (by simp)).trans Hb3.out)
  have Hx4 := Lib.hid (Hx3.out.kept (gb_none (gb_alloc (gb_refl w3 none) _) g4))
  clear g4 b0 b1 b2 b3 hbl hm3
  obtain ⟨⟨b0, b1, b2, b3⟩, _, hbl⟩ := box4 Hb4.out
  go_wp2_with fail
  refine (put_no (seven a0 6) _ _ Hx4.out Hmay.out).mono ?_
  rintro e w5 ⟨rfl, g5⟩
  have Hg5 := Lib.hid (gb_none Hg4.out g5)
  have Hb5 := Lib.hid ((g5.block _ hbl (by simp)).trans Hb4.out)
  have Hx5 := Lib.hid (Hx4.out.kept g5)
  clear g5 b0 b1 b2 b3 hbl
  obtain ⟨⟨b0, b1, b2, b3⟩, _, hbl⟩ := box4 Hb5.out
  go_wp2_with fail
  refine (list_any [(seven a0 6)] (.slice (some ⟨w5.heap.size, 0, none⟩) 1 1) (w5.alloc (.cells #[.int .i64 a0, .int .i64 0, .string ⟨#[]⟩, .slice none 0 0] 24)) ?hlx).mono ?_
  case hlx =>
    refine HL.laid [(seven a0 6)] (heap_alloc_new _ _) (Nat.zero_le _) (by simp) 1 ?_
    intro i y hy
    match i, hy with
    | 0, hy =>
      cases hy
      exact ⟨rfl, rfl, rfl, _, _, _, rfl, Hx5.out.kept (gb_alloc (gb_refl _ _) _)⟩
  rintro e w6 ⟨A6, c6, rfl, hl6, g6⟩
  have Hg6 := Lib.hid (gb_none (gb_alloc Hg5.out _) g6)
  have Hl6 := Lib.hid (hl6.low (Nat.zero_le _))
  clear hl6 g6
  go_wp2_with fail
  have hm6 := may_any (lst [(seven a0 6)]) _ w6 Hl6.out
  rw [Hmay2.out] at hm6
  refine hm6.mono ?_
  rintro e w7 ⟨rfl, g7⟩
  have Hg7 := Lib.hid (gb_none Hg6.out g7)
  clear g7 hm6
  go_wp2_with fail
  refine (awake_any w7 (HT.out.grown Hg7.out)).mono ?_
  rintro e w8 ⟨rfl, g8⟩
  go_wp2_with fail
  go_ret
  exact ⟨rfl, below_of (gb_none Hg7.out g8)⟩

set_option maxHeartbeats 40000000 in
set_option maxRecDepth 100000 in
theorem walk (a0 : Int) (a1 : Int) (w0 : (Lit.int .i64 a0).wf = true) (w1 : (Lit.int .u8 a1).wf = true) (w : World) (hT : ErrT w) :
    Calls Tryd.prog 9 #[.int .i64 a0, .int .u8 a1] w fun e w' => e = .returned (.bool true) ∧ Below w.heap.size w w' := by
  obtain ⟨ha1, ha2⟩ := u8_of w1
  have hj : a1 % 7 = 0 ∨ a1 % 7 = 1 ∨ a1 % 7 = 2 ∨ a1 % 7 = 3 ∨ a1 % 7 = 4 ∨ a1 % 7 = 5 ∨ a1 % 7 = 6 := by omega
  rcases hj with h | h | h | h | h | h | h
  · exact kinds_0 a0 a1 w h ha1 ha2 hT
  · exact kinds_1 a0 a1 w h ha1 ha2 hT
  · exact kinds_2 a0 a1 w h ha1 ha2 hT
  · exact kinds_3 a0 a1 w h ha1 ha2 hT
  · exact kinds_4 a0 a1 w h ha1 ha2 hT
  · exact kinds_5 a0 a1 w h ha1 ha2 hT
  · by_cases h1 : 1 ≤ a0
    · by_cases h3 : a0 ≤ 3
      · exact kinds_yes a0 a1 w h ha1 ha2 h1 h3 hT
      · exact kinds_no3 a0 a1 w h ha1 ha2 (by omega) h1 (by omega) hT
    · exact kinds_no1 a0 a1 w h ha1 ha2 (by omega) (by omega) hT

theorem et : Tryd.prog.globalNamed "errors.errorType" = some 0 := by kernel_rfl
theorem rt : (Tryd.prog.cutTypes.find? (·.1 == "internal/reflectlite.rtype")).map (·.2) = some 108 := by kernel_rfl
theorem one_error : ((List.range 148).filter fun t => Tryd.prog.rowNamed t [101, 114, 114, 111, 114]) = [59] := by kernel_rfl
theorem how_many : Tryd.prog.types.size = 148 := by kernel_rfl
theorem handle : typeHandle Tryd.prog 59 = .pointer (some ⟨2, 59, none⟩) := by kernel_rfl
theorem errT {W : World} (h : laidMetH Tryd.prog Rows.wireKindsRow.laid W) : ErrT W := by
  obtain ⟨n, u, t, hn, hu, ht, hr, hc⟩ := (laidMetH_iff.1 h).2 _ (List.mem_singleton.2 rfl)
  obtain rfl := Option.some.inj hn
  obtain rfl := Option.some.inj (rt.symm.trans hu)
  have hin : t ∈ [59] := by
    rw [← one_error]
    exact List.mem_filter.2 ⟨List.mem_range.2 (how_many ▸ ht), hr⟩
  obtain rfl := List.mem_singleton.1 hin
  rw [handle] at hc
  have := World.var?_cell et hc 0
  unfold ErrT
  simpa using this
set_option maxRecDepth 100000 in
theorem contract (H : Type) (enc : TypeId × Value → H) (W : World) (base : Nat) (args : Array Value) (ds gs : List (DataW H)) (before : List MemPlace)
    (hval0 : ∀ (j : Nat) t v, Tryd.f9.params[j]? = some t → args[j]? = some v → Value.okWide Tryd.prog W .any base t v)
    (hW : DataW.Whole enc Tryd.prog Tryd.f9.params.toList Rows.wireKindsSpec.vars false W args.toList ds gs before) (hL : laidMetH Tryd.prog Rows.wireKindsRow.laid W) :
    Calls Tryd.prog 9 args W fun e W' => ∃ v, e = .returned v ∧ Rows.wireKindsSpec.post enc Tryd.prog Tryd.f9 false true false false W args v W' := by
  have hval : ∀ (j : Nat) t v, Tryd.f9.params[j]? = some t → args[j]? = some v → Value.okWide Tryd.prog W .any base t v := hval0
  have hW' := hW
  obtain ⟨p, q, hA0, hV, rfl, hfz, hnd⟩ := hW
  have hA : DataW.TrodAll enc Tryd.prog W 0 (fun _ => true) true Tryd.f9.params.toList args.toList ds p := hA0
  rw [Tryd.params9] at hA hval
  obtain ⟨v0, vs0, d0, ds0, p0, q0, hargs, rfl, rfl, h0, r0⟩ := trodAll_cons hA
  obtain ⟨v1, vs1, d1, ds1, p1, q1, rfl, rfl, rfl, h1, r1⟩ := trodAll_cons r0
  obtain ⟨rfl, rfl, rfl⟩ := trodAll_nil r1
  obtain rfl : args = #[v0, v1] := by cases args; simp_all
  obtain ⟨rfl, rfl⟩ := trodVars_none hV
  obtain ⟨a0, rfl, rfl, rfl, w0⟩ := open_int Tryd.underlying3 (hval 0 3 v0 rfl rfl) h0
  obtain ⟨a1, rfl, rfl, rfl, w1⟩ := open_int Tryd.underlying5 (hval 1 5 v1 rfl rfl) h1
  clear hA0 hval0
  simp only [List.append_nil] at hW'
  refine (walk a0 a1 w0 w1 W (errT hL)).mono fun e W' ⟨he, hg⟩ => ?_
  subst he
  exact ⟨_, rfl, _, _, _, [], [], [], hW', (trodAll_cons_mk (shut_bool Tryd.underlying4 _) trodAll_mk0), (trodAll_cons_mk (shut_int Tryd.underlying3 w0) (trodAll_cons_mk (shut_int Tryd.underlying5 w1) trodAll_mk0)), rfl, hg.frame _, fun h => by cases h⟩

def lay (cs : Array Value) : Obj → Obj
  | .cells _ t frozen => .cells cs t frozen
  | o => o
noncomputable def laidWorld (os : Os) : World :=
  { World.holding Tryd.prog os ⟨#[], #[], []⟩ with heap := (World.holding Tryd.prog os ⟨#[], #[], []⟩).heap.modify 0 (lay #[.iface 108 (.agg #[.pointer (some ⟨2, 59, none⟩)])]) }
theorem laid_met (os : Os) : laidMetH Tryd.prog Rows.wireKindsRow.laid ((laidWorld os).forCall (fun _ _ => 0) ⟨#[], #[.int .i64 0, .int .u8 0], []⟩).memory :=
  laidMetH_of_parts (laidMet_nil _ _) (by kernel_rfl)
theorem reads (os : Os) {H : Type} (enc : TypeId × Value → H) : ∃ places, DataW.whole enc Tryd.prog ((laidWorld os).forCall (fun _ _ => 0) ⟨#[], #[.int .i64 0, .int .u8 0], []⟩).memory Tryd.f9.params.toList Rows.wireKindsSpec.vars false (show Array Value from #[.int .i64 0, .int .u8 0]).toList 8 = some ([.lit (.int .i64 0), .lit (.int .u8 0)], [], places) :=
  ⟨[], by kernel_rfl⟩

set_option maxRecDepth 100000 in
theorem lifted (os : Os) (started : os.Started) (H : Type) (enc : TypeId × Value → H) (F : Stop.Interp) :
    ReturnsInHanded {} Tryd.checked os 9 .any ((OpenSpec.ofChange Rows.wireKindsSpec).preRow enc Tryd.prog Tryd.f9 Rows.wireKindsRow.domain false Rows.wireKindsRow.laid) (((OpenSpec.ofChange Rows.wireKindsSpec).at F).post enc Tryd.prog Tryd.f9 false true false false) := by
  obtain ⟨places, hx⟩ := reads os enc
  refine returnsInHanded_of_row (C := Tryd.checked) (s := OpenSpec.ofChange Rows.wireKindsSpec) own started (by kernel_rfl) Tryd.func9
    (witness_row_at (enc := enc) (C := Tryd.checked) false (laidWorld os) #[.int .i64 0, .int .u8 0] rfl (by kernel_rfl) (by kernel_rfl) (by kernel_rfl)
      (OpenSpec.preRow_of_cond 8 hx (by kernel_rfl) (fun k hk => by cases hk) (by kernel_rfl) (laid_met os))) ?_
  intro W base args ds gs before hval hW _ _ _ hL _ _
  exact contract H enc W base args ds gs before hval hW hL

theorem said : Rows.WireKindsSaid :=
  OpenClaim.holds_of_cond 9 Tryd.f9 rfl rfl rfl rfl rfl rfl rfl ⟨rfl, rfl, rfl, rfl, rfl⟩ rfl rfl rfl rfl rfl (by kernel_rfl) Tryd.func9 (by kernel_rfl)
    (of_decide_eq_true (by kernel_rfl)) (by unfold Func.isWrapper; first | (rw [if_pos (by decide +kernel)]; kernel_rfl) | (rw [if_neg (by decide +kernel)]; exact ⟨rfl, rfl⟩))
    (fun os started H enc _ F => by rw [OpenClaim.pre_eq_preRow]; exact lifted os started H enc F)

theorem plain (f : FuncId) (fn : Func) (hf : Tryd.pinned.checked.prog.funcNamed "deaddrop/deaddroplaw4.WireKinds" = some f) (hfn : Tryd.pinned.checked.prog.funcs[f]? = some fn) :
    true = Tryd.pinned.checked.prog.looks [] ∧ ∀ (j : Nat) t, fn.params[j]? = some t → Tryd.pinned.checked.prog.wantsStandIn t = false := by
  obtain rfl : f = 9 := Option.some.inj ((show Tryd.prog.funcNamed "deaddrop/deaddroplaw4.WireKinds" = some 9 by kernel_rfl).symm.trans hf) |>.symm
  obtain rfl : fn = Tryd.f9 := (Option.some.inj (Tryd.func9.symm.trans hfn)).symm
  refine ⟨by kernel_rfl, fun j t ht => ?_⟩
  have hall : (Tryd.f9.params.toList.all fun u => !Tryd.prog.wantsStandIn u) = true := by kernel_rfl
  have hm : t ∈ Tryd.f9.params.toList := by simpa using Array.mem_of_getElem? ht
  exact (show Tryd.prog.wantsStandIn t = false by simpa using List.all_eq_true.1 hall t hm)

theorem card : Rows.WireKindsCardSaid :=
  Claim7.holds_tied_plain_at .later [] _ _ _ _ said (fun _ h => by cases h) (by kernel_rfl) (fun _ h => by cases h) wireKinds_row_tie rfl ⟨rfl, rfl⟩ (by kernel_rfl) rfl plain (by kernel_rfl)
#print axioms card
end Go.Proofs.YtbammjhafgbfkaaDoor.wireKinds
