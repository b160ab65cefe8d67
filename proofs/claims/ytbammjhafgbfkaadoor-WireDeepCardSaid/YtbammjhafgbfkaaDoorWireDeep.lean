/-
  Proved: whatever values of its parameters' types it is called with, deaddroplaw4.WireDeep returns true, and each argument reads behind the call as it read before; the library's variable errors.errorType being what the program's own text lays (the card ties it).
  Conditions: none but those of the card itself.
-/
import Derived.Test.YtbammjhafgbfkaaDoorCards
import Derived.Test.YtbammjhafgbfkaaDoorTie
import Derived.WalkKit
import Derived.ProofKit
import Derived.OpenShut
import Derived.ShutString
import Derived.Below
import Derived.Deep.DeepHandedRow
import Derived.LaidSub
import Derived.LaidHandle
import Derived.LaidLaws
import Derived.RowKitTokens
import Derived.Test.YtbammjhafgbfkaaDoorVLaw
import Derived.IntWalk
import Derived.Outline
namespace Go.Proofs.YtbammjhafgbfkaaDoor.wireDeep
open Go.ChangeShapes Go.WideShapes Go.ChangeAt Go.RowKit
open Go.ChangeMaps (open_string shut_string)
open Go.Proofs.YtbammjhafgbfkaaDoor.Wd Go.Proofs.YtbammjhafgbfkaaDoor.Mm Go.Proofs.YtbammjhafgbfkaaDoor.Vw
set_option linter.unusedVariables false

theorem own : ownKnob Tryd.prog.godebug = none := by kernel_rfl


theorem eq_self (s : ByteArray) : (s.toList == s.toList) = true := by simp
def nest : Nat → Wr → Wr
  | 0, x => x
  | i + 1, x => lst [nest i x]
theorem nest_enc (i : Nat) (x : Wr) : (nest (i + 1) x).enc = [3, 0, 0, 0, 1] ++ (nest i x).enc := by
  show (Wr.mk 3 0 ⟨#[]⟩ [nest i x]).enc = _
  rw [enc_mk, if_neg (by decide), if_neg (by decide), encs_cons, encs_nil, List.append_nil]
  have e : highs (([nest i x].length : Nat) : Int) 4 = [0, 0, 0, 1] := by
    show highs ((1 : Nat) : Int) 4 = _
    decide
  rw [e]
  rfl
theorem tx_len : (txt ⟨#[116]⟩).enc.length = 6 := by decide
theorem ls_len : (lst []).enc.length = 5 := by decide
theorem nest_len (i : Nat) (x : Wr) : (nest i x).enc.length = 5 * i + x.enc.length := by
  induction i with
  | zero => simp [nest]
  | succ i ih => rw [nest_enc, List.length_append, ih]; simp; omega
theorem nest_fit (x : Wr) (d : Nat) (hx : ∀ R : Int, 0 ≤ R → x.fit R = decide ((d : Int) ≤ R)) : ∀ (i : Nat) (R : Int), 0 ≤ R → (nest i x).fit R = decide (((i + d : Nat) : Int) ≤ R) := by
  intro i
  induction i with
  | zero => intro R hR; rw [Nat.zero_add]; exact hx R hR
  | succ i ih =>
    intro R hR
    show (Wr.mk 3 0 ⟨#[]⟩ [nest i x]).fit R = _
    rw [fit_mk, if_neg (by decide), if_neg (by decide), if_pos rfl, allFit_cons, allFit_nil, Bool.and_true]
    by_cases h0 : 0 < R
    · rw [ih (R - 1) (by omega), decide_eq_true h0]
      have : decide (((i + d : Nat) : Int) ≤ R - 1) = decide (((i + 1 + d : Nat) : Int) ≤ R) := decide_eq_decide.2 (by omega)
      rw [this]; rfl
    · rw [decide_eq_false h0, decide_eq_false (show ¬ ((i + 1 + d : Nat) : Int) ≤ R by omega)]; rfl
theorem nest_in (x : Wr) (hx : x.in64 = true) (i : Nat) : (nest i x).in64 = true := by
  induction i with
  | zero => exact hx
  | succ i ih =>
    show (Wr.mk 3 0 ⟨#[]⟩ [nest i x]).in64 = true
    rw [in64_mk, allIn_cons, ih, allIn_nil]; rfl
theorem nest_deep (x : Wr) (d : Nat) (hx : ∀ R t, R < d → rd R (x.enc ++ t) = none) : ∀ (i R : Nat) (t : List UInt8), R < i + d → rd R ((nest i x).enc ++ t) = none := by
  intro i
  induction i with
  | zero => intro R t h; exact hx R t (by omega)
  | succ i ih =>
    intro R t h
    rw [nest_enc, List.append_assoc]
    cases R with
    | zero => rfl
    | succ R =>
      show rdB (some (rd R)) (3 :: 0 :: 0 :: 0 :: 1 :: ((nest i x).enc ++ t)) = none
      rw [rdB, if_neg (by decide), if_neg (by decide), if_pos rfl, Option.bind_some, rdL, if_neg (by simp)]
      have e : List.take 4 (0 :: 0 :: 0 :: 1 :: ((nest i x).enc ++ t)) = [0, 0, 0, 1] := rfl
      rw [e, if_neg (by decide)]
      have e2 : beN [0, 0, 0, 1] = 1 := by decide
      have e3 : List.drop 4 (0 :: 0 :: 0 :: 1 :: ((nest i x).enc ++ t)) = (nest i x).enc ++ t := rfl
      rw [e2, e3, rds, ih R t (by omega)]; rfl
theorem nest_get (x : Wr) (d : Nat) (hx : ∀ R t, R < d → rd R (x.enc ++ t) = none) (i : Nat) (h : 6 < i + d) : get (nest i x).enc = none := by
  have := nest_deep x d hx i 6 [] h
  rw [List.append_nil] at this
  unfold get; rw [this]
theorem num_fit (n R : Int) (hR : 0 ≤ R) : (num n).fit R = decide (((0 : Nat) : Int) ≤ R) := by
  unfold num; rw [fit_mk, if_pos rfl, decide_eq_true (by omega)]; rfl
theorem txt_fit (R : Int) (hR : 0 ≤ R) : (txt ⟨#[116]⟩).fit R = decide (((0 : Nat) : Int) ≤ R) := by
  unfold txt; rw [fit_mk, if_neg (by decide), if_pos rfl, decide_eq_true (show ((0 : Nat) : Int) ≤ R by omega)]; rfl
theorem lst_fit (R : Int) (_hR : 0 ≤ R) : (lst []).fit R = decide (((1 : Nat) : Int) ≤ R) := by
  unfold lst; rw [fit_mk, if_neg (by decide), if_neg (by decide), if_pos rfl, allFit_nil]
  have : decide (0 < R) = decide (((1 : Nat) : Int) ≤ R) := decide_eq_decide.2 (by omega)
  rw [this]; simp
  intro _
  rfl
theorem no_zero (x : Wr) : ∀ (R : Nat) (t : List UInt8), R < 0 → rd R (x.enc ++ t) = none := fun R t h => absurd h (by omega)
theorem lst_deep : ∀ (R : Nat) (t : List UInt8), R < 1 → rd R ((lst []).enc ++ t) = none := fun R t h => by
  obtain rfl : R = 0 := by omega
  rfl
def three : ByteArray := ⟨#[3, 0, 0, 0, 1]⟩
theorem three_app (S : ByteArray) (i : Nat) (x : Wr) (h : S.data.toList = (nest i x).enc) : (three ++ S).data.toList = (nest (i + 1) x).enc := by
  rw [nest_enc, ByteArray.data_append, Array.toList_append, h]; rfl
theorem nest_head (x : Wr) (i : Nat) (h : 0 < i) : (nest i x).k = 3 ∧ (nest i x).n = 0 ∧ (nest i x).s = ⟨#[]⟩ := by
  obtain ⟨j, rfl⟩ : ∃ j, i = j + 1 := ⟨i - 1, by omega⟩
  exact ⟨rfl, rfl, rfl⟩
theorem bytes_is (x : Wr) (S : ByteArray) (hm : x.may = true) (h : S.data.toList = x.enc) : x.bytes = S := text_ext (by rw [ByteArray.toList_eq, ByteArray.toList_eq, bytes_len x hm, h])
set_option maxHeartbeats 8000000 in
set_option maxRecDepth 100000 in
theorem deep_0d (a0 a1 : Int) (K : Nat) (hK11 : K ≤ 11) (hk0 : a0 % 12 = (K : Int)) (hj : a1 % 3 = 0) (h01 : 0 ≤ a0) (h02 : a0 ≤ 255) (h11 : 0 ≤ a1) (h12 : a1 ≤ 255) (hK : 6 < K + 0) (w : World) (HT : Hid (ErrT w)) :
    Calls Tryd.prog 6 #[.int .u8 a0, .int .u8 a1] w fun e w' => e = .returned (.bool true) ∧ Below w.heap.size w w' := by
  have Hmay : Hid ((nest K (num 5)).may = false) := by show _ = _; unfold Wr.may; rw [nest_fit (num 5) 0 (num_fit 5) K 6 (by decide)]; exact decide_eq_false (by omega)
  have Hget1 : Hid (get (nest K (num 5)).enc = none) := nest_get (num 5) 0 (no_zero (num 5)) K hK
  have tk : decide (6 < (K : Int)) = true := decide_eq_true (by omega)
  go_enter Tryd.func6, Tryd.ntmps6
  go_wp2_with fail
  refine (num_any 5 _).mono ?_
  rintro e w1 ⟨rfl, g1⟩
  go_wp2_with fail
  refine (text_any ⟨#[116]⟩ _).mono ?_
  rintro e w2 ⟨rfl, g2⟩
  go_wp2_with fail
  refine (list_any [] (.slice none 0 0) w2 (.nil _ _)).mono ?_
  rintro e w3 ⟨A0, c0, rfl, _, g3⟩
  have Hg3 := Lib.hid (gb_none (gb_none g1 g2) g3)
  clear g1 g2 g3
  go_wp2_with fail
  have Hr3 := Lib.hid (show ((w3.alloc (.cells #[.int .i64 1, .int .i64 5, .string ⟨#[]⟩, .slice none 0 0, .int .i64 2, .int .i64 0, .string ⟨#[116]⟩, .slice none 0 0, .int .i64 3, .int .i64 0, .string ⟨#[]⟩, .slice A0 0 c0] 24)).alloc (.cells #[.int .i64 1, .int .i64 5, .string ⟨#[]⟩, .slice none 0 0] 24)).heap[w3.heap.size + 1]? = some (.cells #[.int .i64 1, .int .i64 5, .string ⟨#[]⟩, .slice none 0 0] 24 (0, 0)) from by have := heap_alloc_new (w3.alloc (.cells #[.int .i64 1, .int .i64 5, .string ⟨#[]⟩, .slice none 0 0, .int .i64 2, .int .i64 0, .string ⟨#[116]⟩, .slice none 0 0, .int .i64 3, .int .i64 0, .string ⟨#[]⟩, .slice A0 0 c0] 24)) (.cells #[.int .i64 1, .int .i64 5, .string ⟨#[]⟩, .slice none 0 0] 24); simpa using this)
  refine (put_all (num 5) (.slice none 0 0) _ (.nil _ _) (by rw [num_len 5]; decide)).mono ?_
  rintro e w4 ⟨rfl, g4⟩
  have Hr4 := Lib.hid (row_kept Hr3.out g4)
  have Hg4 := Lib.hid (gb_none (gb_alloc (gb_alloc Hg3.out _) _) g4)
  have hb6 : w3.heap.size + 1 < w4.heap.size := (Array.getElem?_eq_some_iff.1 Hr4.out).1
  have h36 : w.heap.size ≤ w3.heap.size := Hg3.out.size
  obtain ⟨S0, HS0⟩ : ∃ S0, Hid ((num 5).bytes = S0) := ⟨_, rfl⟩
  have HS0l : Hid (S0.data.toList = (num 5).enc) := by show _ = _; rw [← HS0.out]; exact bytes_len _ (by decide)
  rw [HS0.out]
  clear g4
  go_wp2_with fail
  go_loopw [7, 8] (fun s i wr => ∃ (i' : Nat) (S : ByteArray) (A : Option Addr) (c : Nat), i' ≤ K ∧ i = .int .i64 i' ∧ s = .string S ∧ Hid (S.data.toList = (nest i' (num 5)).enc) ∧ Hid (wr.heap[w3.heap.size + 1]? = some (.cells #[.int .i64 (nest i' (num 5)).k, .int .i64 (nest i' (num 5)).n, .string (nest i' (num 5)).s, .slice A (nest i' (num 5)).l.length c] 24 (0, 0))) ∧ Hid (HL wr (w3.heap.size + 1 + 1) (.slice A (nest i' (num 5)).l.length c) (nest i' (num 5)).l) ∧ Hid (w.grownBy wr none)) (fun _ i _ => K - (intOf i).toNat)
  case atStart => exact ⟨0, S0, none, 0, Nat.zero_le _, rfl, rfl, HS0l, Hr4, .nil _ _, Hg4⟩
  clear Hr4 Hg4 HS0l HS0 hb6
  obtain ⟨i', S, A, c, hi, rfl, rfl, Hs, Hb, Hx, Hg⟩ := hrel
  have HSl : Hid (S.data.toList.length = 5 * i' + 9) := by show _ = _; rw [Hs.out, nest_len, num_len 5]
  have hSs : S.size = 5 * i' + 9 := by have := HSl.out; simpa using this
  have hS1 : S.size ≤ 100 := by omega
  clear hSs
  by_cases hlt : i' < K
  · have z1 : decide (i' < K) = true := decide_eq_true hlt
    obtain ⟨⟨b0, b1, b2, b3⟩, _, hbl⟩ := box4 Hb.out
    have hcat : ¬ 9223372036854775807 < 5 + S.size := by omega
    go_wp2_with fail
    refine (list_any [nest i' (num 5)] (.slice (some ⟨wr.heap.size, 0, none⟩) 1 1) (wr.alloc (.cells #[.int .i64 (nest i' (num 5)).k, .int .i64 (nest i' (num 5)).n, .string (nest i' (num 5)).s, .slice A (nest i' (num 5)).l.length c] 24)) ?hlx).mono ?_
    case hlx =>
      refine HL.laid [nest i' (num 5)] (heap_alloc_new _ _) (Nat.zero_le _) (by simp) 1 ?_
      intro m y hy
      match m, hy with
      | 0, hy =>
        cases hy
        exact ⟨rfl, rfl, rfl, _, _, _, rfl, (Hx.out.low (Nat.zero_le _)).kept (gb_alloc (gb_refl _ _) _)⟩
    rintro e w5 ⟨A5, c5, rfl, hl5, g5⟩
    have Hg5 := Lib.hid (gb_none (gb_alloc Hg.out _) g5)
    have Hb5 := Lib.hid (row_kept Hb.out (gb_none (gb_alloc (gb_refl wr none) _) g5))
    have Hl5 := Lib.hid (hl5.low (B' := w3.heap.size + 1 + 1) (by simp; omega))
    clear hl5 g5 b0 b1 b2 b3 hbl
    obtain ⟨⟨b0, b1, b2, b3⟩, ⟨f0, f1, f2, f3⟩, hbl⟩ := box4 Hb5.out
    have Hs5 := Lib.hid (three_app S i' (num 5) Hs.out)
    go_wp2_with fail
    go_roundw
    case rel =>
      refine ⟨i' + 1, three ++ S, A5, c5, by omega, by go_num, rfl, Hs5, ?_, ?_, ?_⟩
      · exact set4_row Hb5.out (.int .i64 3) (.int .i64 0) (.string ⟨#[]⟩) (.slice A5 1 c5)
      · refine Hl5.out.grown (gb_then (gb_then (gb_then (gb_set1 _ (w3.heap.size + 1) _ _) (gb_set1 _ _ _ _)) (gb_set1 _ _ _ _)) (gb_set1 _ _ _ _)) (fun m e => ?_)
        cases e; omega
      · exact gb_new4 (by omega) Hg5.out
    case measure => simp [intOf]; omega
  have z1 : decide (i' < K) = false := decide_eq_false hlt
  have Hk : Hid (i' = K) := by show _ = _; omega
  have Hget : Hid (get S.data.toList = none) := by show _ = _; rw [Hs.out, Hk.out]; exact Hget1.out
  rw [Hk.out] at Hb Hx
  clear hlt Hs hS1
  go_wp2_with fail
  refine (get_none S wr (by rw [HSl.out]; omega) Hget.out (HT.out.grown Hg.out)).mono ?_
  rintro e w5 ⟨rfl, g5⟩
  have Hg5 := Lib.hid (gb_none Hg.out g5)
  have Hb5 := Lib.hid (row_kept Hb.out g5)
  have Hx5 := Lib.hid ((Hx.out.low (Nat.zero_le _)).kept g5)
  clear g5
  obtain ⟨⟨b0, b1, b2, b3⟩, _, hbl⟩ := box4 Hb5.out
  go_wp2_with fail
  have hm := may_any (nest K (num 5)) (.slice A (nest K (num 5)).l.length c) (w5.alloc (.cells #[.int .i64 0, .int .i64 0, .string ⟨#[]⟩, .slice none 0 0] 24)) (Hx5.out.kept (gb_alloc (gb_refl _ _) _))
  rw [Hmay.out] at hm
  refine hm.mono ?_
  rintro e w6 ⟨rfl, g6⟩
  have Hg6 := Lib.hid (gb_none (gb_alloc Hg5.out _) g6)
  have Hx6 := Lib.hid (Hx5.out.kept (gb_none (gb_alloc (gb_refl w5 none) _) g6))
  have Hb6 := Lib.hid (row_kept Hb5.out (gb_none (gb_alloc (gb_refl w5 none) _) g6))
  clear g6 hm b0 b1 b2 b3 hbl
  obtain ⟨⟨b0, b1, b2, b3⟩, _, hbl⟩ := box4 Hb6.out
  go_wp2_with fail
  refine (put_no (nest K (num 5)) _ _ Hx6.out (by exact Hmay.out)).mono ?_
  rintro e w7 ⟨rfl, g7⟩
  have Hg7 := Lib.hid (gb_none Hg6.out g7)
  clear g7 b0 b1 b2 b3 hbl
  go_wp2_with fail
  refine (awake_any w7 (HT.out.grown Hg7.out)).mono ?_
  rintro e w8 ⟨rfl, g8⟩
  go_wp2_with fail
  go_ret
  exact ⟨rfl, below_of (gb_none Hg7.out g8)⟩
set_option maxHeartbeats 8000000 in
set_option maxRecDepth 100000 in
theorem deep_0n (a0 a1 : Int) (K : Nat) (hK11 : K ≤ 11) (hk0 : a0 % 12 = (K : Int)) (hj : a1 % 3 = 0) (h01 : 0 ≤ a0) (h02 : a0 ≤ 255) (h11 : 0 ≤ a1) (h12 : a1 ≤ 255) (hK : K + 0 ≤ 6) (w : World) (HT : Hid (ErrT w)) :
    Calls Tryd.prog 6 #[.int .u8 a0, .int .u8 a1] w fun e w' => e = .returned (.bool true) ∧ Below w.heap.size w w' := by
  have Hmay : Hid ((nest K (num 5)).may = true) := by show _ = _; unfold Wr.may; rw [nest_fit (num 5) 0 (num_fit 5) K 6 (by decide)]; exact decide_eq_true (by omega)
  have Hin : Hid ((nest K (num 5)).in64 = true) := nest_in (num 5) (by decide) K
  have tk : decide (6 < (K : Int)) = false := decide_eq_false (by omega)
  go_enter Tryd.func6, Tryd.ntmps6
  go_wp2_with fail
  refine (num_any 5 _).mono ?_
  rintro e w1 ⟨rfl, g1⟩
  go_wp2_with fail
  refine (text_any ⟨#[116]⟩ _).mono ?_
  rintro e w2 ⟨rfl, g2⟩
  go_wp2_with fail
  refine (list_any [] (.slice none 0 0) w2 (.nil _ _)).mono ?_
  rintro e w3 ⟨A0, c0, rfl, _, g3⟩
  have Hg3 := Lib.hid (gb_none (gb_none g1 g2) g3)
  clear g1 g2 g3
  go_wp2_with fail
  have Hr3 := Lib.hid (show ((w3.alloc (.cells #[.int .i64 1, .int .i64 5, .string ⟨#[]⟩, .slice none 0 0, .int .i64 2, .int .i64 0, .string ⟨#[116]⟩, .slice none 0 0, .int .i64 3, .int .i64 0, .string ⟨#[]⟩, .slice A0 0 c0] 24)).alloc (.cells #[.int .i64 1, .int .i64 5, .string ⟨#[]⟩, .slice none 0 0] 24)).heap[w3.heap.size + 1]? = some (.cells #[.int .i64 1, .int .i64 5, .string ⟨#[]⟩, .slice none 0 0] 24 (0, 0)) from by have := heap_alloc_new (w3.alloc (.cells #[.int .i64 1, .int .i64 5, .string ⟨#[]⟩, .slice none 0 0, .int .i64 2, .int .i64 0, .string ⟨#[116]⟩, .slice none 0 0, .int .i64 3, .int .i64 0, .string ⟨#[]⟩, .slice A0 0 c0] 24)) (.cells #[.int .i64 1, .int .i64 5, .string ⟨#[]⟩, .slice none 0 0] 24); simpa using this)
  refine (put_all (num 5) (.slice none 0 0) _ (.nil _ _) (by rw [num_len 5]; decide)).mono ?_
  rintro e w4 ⟨rfl, g4⟩
  have Hr4 := Lib.hid (row_kept Hr3.out g4)
  have Hg4 := Lib.hid (gb_none (gb_alloc (gb_alloc Hg3.out _) _) g4)
  have hb6 : w3.heap.size + 1 < w4.heap.size := (Array.getElem?_eq_some_iff.1 Hr4.out).1
  have h36 : w.heap.size ≤ w3.heap.size := Hg3.out.size
  obtain ⟨S0, HS0⟩ : ∃ S0, Hid ((num 5).bytes = S0) := ⟨_, rfl⟩
  have HS0l : Hid (S0.data.toList = (num 5).enc) := by show _ = _; rw [← HS0.out]; exact bytes_len _ (by decide)
  rw [HS0.out]
  clear g4
  go_wp2_with fail
  go_loopw [7, 8] (fun s i wr => ∃ (i' : Nat) (S : ByteArray) (A : Option Addr) (c : Nat), i' ≤ K ∧ i = .int .i64 i' ∧ s = .string S ∧ Hid (S.data.toList = (nest i' (num 5)).enc) ∧ Hid (wr.heap[w3.heap.size + 1]? = some (.cells #[.int .i64 (nest i' (num 5)).k, .int .i64 (nest i' (num 5)).n, .string (nest i' (num 5)).s, .slice A (nest i' (num 5)).l.length c] 24 (0, 0))) ∧ Hid (HL wr (w3.heap.size + 1 + 1) (.slice A (nest i' (num 5)).l.length c) (nest i' (num 5)).l) ∧ Hid (w.grownBy wr none)) (fun _ i _ => K - (intOf i).toNat)
  case atStart => exact ⟨0, S0, none, 0, Nat.zero_le _, rfl, rfl, HS0l, Hr4, .nil _ _, Hg4⟩
  clear Hr4 Hg4 HS0l HS0 hb6
  obtain ⟨i', S, A, c, hi, rfl, rfl, Hs, Hb, Hx, Hg⟩ := hrel
  have HSl : Hid (S.data.toList.length = 5 * i' + 9) := by show _ = _; rw [Hs.out, nest_len, num_len 5]
  have hSs : S.size = 5 * i' + 9 := by have := HSl.out; simpa using this
  have hS1 : S.size ≤ 100 := by omega
  clear hSs
  by_cases hlt : i' < K
  · have z1 : decide (i' < K) = true := decide_eq_true hlt
    obtain ⟨⟨b0, b1, b2, b3⟩, _, hbl⟩ := box4 Hb.out
    have hcat : ¬ 9223372036854775807 < 5 + S.size := by omega
    go_wp2_with fail
    refine (list_any [nest i' (num 5)] (.slice (some ⟨wr.heap.size, 0, none⟩) 1 1) (wr.alloc (.cells #[.int .i64 (nest i' (num 5)).k, .int .i64 (nest i' (num 5)).n, .string (nest i' (num 5)).s, .slice A (nest i' (num 5)).l.length c] 24)) ?hlx).mono ?_
    case hlx =>
      refine HL.laid [nest i' (num 5)] (heap_alloc_new _ _) (Nat.zero_le _) (by simp) 1 ?_
      intro m y hy
      match m, hy with
      | 0, hy =>
        cases hy
        exact ⟨rfl, rfl, rfl, _, _, _, rfl, (Hx.out.low (Nat.zero_le _)).kept (gb_alloc (gb_refl _ _) _)⟩
    rintro e w5 ⟨A5, c5, rfl, hl5, g5⟩
    have Hg5 := Lib.hid (gb_none (gb_alloc Hg.out _) g5)
    have Hb5 := Lib.hid (row_kept Hb.out (gb_none (gb_alloc (gb_refl wr none) _) g5))
    have Hl5 := Lib.hid (hl5.low (B' := w3.heap.size + 1 + 1) (by simp; omega))
    clear hl5 g5 b0 b1 b2 b3 hbl
    obtain ⟨⟨b0, b1, b2, b3⟩, ⟨f0, f1, f2, f3⟩, hbl⟩ := box4 Hb5.out
    have Hs5 := Lib.hid (three_app S i' (num 5) Hs.out)
    go_wp2_with fail
    go_roundw
    case rel =>
      refine ⟨i' + 1, three ++ S, A5, c5, by omega, by go_num, rfl, Hs5, ?_, ?_, ?_⟩
      · exact set4_row Hb5.out (.int .i64 3) (.int .i64 0) (.string ⟨#[]⟩) (.slice A5 1 c5)
      · refine Hl5.out.grown (gb_then (gb_then (gb_then (gb_set1 _ (w3.heap.size + 1) _ _) (gb_set1 _ _ _ _)) (gb_set1 _ _ _ _)) (gb_set1 _ _ _ _)) (fun m e => ?_)
        cases e; omega
      · exact gb_new4 (by omega) Hg5.out
    case measure => simp [intOf]; omega
  have z1 : decide (i' < K) = false := decide_eq_false hlt
  have Hk : Hid (i' = K) := by show _ = _; omega
  have Hget : Hid (get S.data.toList = some (nest K (num 5))) := by show _ = _; rw [Hs.out, Hk.out]; exact get_enc _ Hmay.out Hin.out
  have Hbytes : Hid ((nest K (num 5)).bytes = S) := by show _ = _; exact bytes_is _ S Hmay.out (by rw [Hs.out, Hk.out])
  rw [Hk.out] at Hb Hx
  clear hlt Hs hS1
  go_wp2_with fail
  refine (get_some S wr (by rw [HSl.out]; omega) (nest K (num 5)) Hget.out).mono ?_
  rintro e w5 ⟨Ag, cg, rfl, hlg, g5⟩
  have Hg5 := Lib.hid (gb_none Hg.out g5)
  have Hb5 := Lib.hid (row_kept Hb.out g5)
  have Hx5 := Lib.hid ((Hx.out.low (Nat.zero_le _)).kept g5)
  have Hlg5 := Lib.hid (hlg.low (Nat.zero_le _))
  clear g5 hlg
  obtain ⟨⟨b0, b1, b2, b3⟩, _, hbl⟩ := box4 Hb5.out
  go_wp2_with fail
  have hm := may_any (nest K (num 5)) (.slice A (nest K (num 5)).l.length c) (w5.alloc (.cells #[.int .i64 (nest K (num 5)).k, .int .i64 (nest K (num 5)).n, .string (nest K (num 5)).s, .slice Ag (nest K (num 5)).l.length cg] 24)) (Hx5.out.kept (gb_alloc (gb_refl _ _) _))
  rw [Hmay.out] at hm
  refine hm.mono ?_
  rintro e w6 ⟨rfl, g6⟩
  have Hg6 := Lib.hid (gb_none (gb_alloc Hg5.out _) g6)
  have Hx6 := Lib.hid (Hx5.out.kept (gb_none (gb_alloc (gb_refl w5 none) _) g6))
  have Hlg6 := Lib.hid (Hlg5.out.kept (gb_none (gb_alloc (gb_refl w5 none) _) g6))
  have Hb6 := Lib.hid (row_kept Hb5.out (gb_none (gb_alloc (gb_refl w5 none) _) g6))
  have Hn6 := Lib.hid (row_kept (heap_alloc_new w5 _) g6)
  clear g6 hm b0 b1 b2 b3 hbl
  obtain ⟨⟨b0, b1, b2, b3⟩, _, hbl⟩ := box4 Hb6.out
  go_wp2_with fail
  refine (put_all (nest K (num 5)) _ _ Hx6.out (by rw [nest_len, num_len 5]; omega)).mono ?_
  rintro e w7 ⟨rfl, g7⟩
  rw [Hbytes.out]
  have Hg7 := Lib.hid (gb_none Hg6.out g7)
  have Hx7 := Lib.hid (Hx6.out.kept g7)
  have Hlg7 := Lib.hid (Hlg6.out.kept g7)
  have Hb7 := Lib.hid (row_kept Hb6.out g7)
  have Hn7 := Lib.hid (row_kept Hn6.out g7)
  clear g7 b0 b1 b2 b3 hbl
  obtain ⟨⟨b0, b1, b2, b3⟩, _, hbl⟩ := box4 Hb7.out
  obtain ⟨⟨n0, n1, n2, n3⟩, _, hnl⟩ := box4 Hn7.out
  have es := eq_self S
  go_wp2_with fail
  have hsm := same_any (nest K (num 5)) (nest K (num 5)) _ _ _ Hlg7.out Hx7.out
  rw [same_self] at hsm
  refine hsm.mono ?_
  rintro e w8 ⟨rfl, g8⟩
  have Hg8 := Lib.hid (gb_none Hg7.out g8)
  clear g8 b0 b1 b2 b3 hbl n0 n1 n2 n3 hnl hsm
  go_wp2_with fail
  refine (awake_any w8 (HT.out.grown Hg8.out)).mono ?_
  rintro e w9 ⟨rfl, g9⟩
  go_wp2_with fail
  go_ret
  exact ⟨rfl, below_of (gb_none Hg8.out g9)⟩
set_option maxHeartbeats 8000000 in
set_option maxRecDepth 100000 in
theorem deep_1d (a0 a1 : Int) (K : Nat) (hK11 : K ≤ 11) (hk0 : a0 % 12 = (K : Int)) (hj : a1 % 3 = 1) (h01 : 0 ≤ a0) (h02 : a0 ≤ 255) (h11 : 0 ≤ a1) (h12 : a1 ≤ 255) (hK : 6 < K + 0) (w : World) (HT : Hid (ErrT w)) :
    Calls Tryd.prog 6 #[.int .u8 a0, .int .u8 a1] w fun e w' => e = .returned (.bool true) ∧ Below w.heap.size w w' := by
  have Hmay : Hid ((nest K (txt ⟨#[116]⟩)).may = false) := by show _ = _; unfold Wr.may; rw [nest_fit (txt ⟨#[116]⟩) 0 (txt_fit) K 6 (by decide)]; exact decide_eq_false (by omega)
  have Hget1 : Hid (get (nest K (txt ⟨#[116]⟩)).enc = none) := nest_get (txt ⟨#[116]⟩) 0 (no_zero (txt ⟨#[116]⟩)) K hK
  have tk : decide (6 < (K : Int)) = true := decide_eq_true (by omega)
  go_enter Tryd.func6, Tryd.ntmps6
  go_wp2_with fail
  refine (num_any 5 _).mono ?_
  rintro e w1 ⟨rfl, g1⟩
  go_wp2_with fail
  refine (text_any ⟨#[116]⟩ _).mono ?_
  rintro e w2 ⟨rfl, g2⟩
  go_wp2_with fail
  refine (list_any [] (.slice none 0 0) w2 (.nil _ _)).mono ?_
  rintro e w3 ⟨A0, c0, rfl, _, g3⟩
  have Hg3 := Lib.hid (gb_none (gb_none g1 g2) g3)
  clear g1 g2 g3
  go_wp2_with fail
  have Hr3 := Lib.hid (show ((w3.alloc (.cells #[.int .i64 1, .int .i64 5, .string ⟨#[]⟩, .slice none 0 0, .int .i64 2, .int .i64 0, .string ⟨#[116]⟩, .slice none 0 0, .int .i64 3, .int .i64 0, .string ⟨#[]⟩, .slice A0 0 c0] 24)).alloc (.cells #[.int .i64 2, .int .i64 0, .string ⟨#[116]⟩, .slice none 0 0] 24)).heap[w3.heap.size + 1]? = some (.cells #[.int .i64 2, .int .i64 0, .string ⟨#[116]⟩, .slice none 0 0] 24 (0, 0)) from by have := heap_alloc_new (w3.alloc (.cells #[.int .i64 1, .int .i64 5, .string ⟨#[]⟩, .slice none 0 0, .int .i64 2, .int .i64 0, .string ⟨#[116]⟩, .slice none 0 0, .int .i64 3, .int .i64 0, .string ⟨#[]⟩, .slice A0 0 c0] 24)) (.cells #[.int .i64 2, .int .i64 0, .string ⟨#[116]⟩, .slice none 0 0] 24); simpa using this)
  refine (put_all (txt ⟨#[116]⟩) (.slice none 0 0) _ (.nil _ _) (by rw [tx_len]; decide)).mono ?_
  rintro e w4 ⟨rfl, g4⟩
  have Hr4 := Lib.hid (row_kept Hr3.out g4)
  have Hg4 := Lib.hid (gb_none (gb_alloc (gb_alloc Hg3.out _) _) g4)
  have hb6 : w3.heap.size + 1 < w4.heap.size := (Array.getElem?_eq_some_iff.1 Hr4.out).1
  have h36 : w.heap.size ≤ w3.heap.size := Hg3.out.size
  obtain ⟨S0, HS0⟩ : ∃ S0, Hid ((txt ⟨#[116]⟩).bytes = S0) := ⟨_, rfl⟩
  have HS0l : Hid (S0.data.toList = (txt ⟨#[116]⟩).enc) := by show _ = _; rw [← HS0.out]; exact bytes_len _ (by decide)
  rw [HS0.out]
  clear g4
  go_wp2_with fail
  go_loopw [7, 8] (fun s i wr => ∃ (i' : Nat) (S : ByteArray) (A : Option Addr) (c : Nat), i' ≤ K ∧ i = .int .i64 i' ∧ s = .string S ∧ Hid (S.data.toList = (nest i' (txt ⟨#[116]⟩)).enc) ∧ Hid (wr.heap[w3.heap.size + 1]? = some (.cells #[.int .i64 (nest i' (txt ⟨#[116]⟩)).k, .int .i64 (nest i' (txt ⟨#[116]⟩)).n, .string (nest i' (txt ⟨#[116]⟩)).s, .slice A (nest i' (txt ⟨#[116]⟩)).l.length c] 24 (0, 0))) ∧ Hid (HL wr (w3.heap.size + 1 + 1) (.slice A (nest i' (txt ⟨#[116]⟩)).l.length c) (nest i' (txt ⟨#[116]⟩)).l) ∧ Hid (w.grownBy wr none)) (fun _ i _ => K - (intOf i).toNat)
  case atStart => exact ⟨0, S0, none, 0, Nat.zero_le _, rfl, rfl, HS0l, Hr4, .nil _ _, Hg4⟩
  clear Hr4 Hg4 HS0l HS0 hb6
  obtain ⟨i', S, A, c, hi, rfl, rfl, Hs, Hb, Hx, Hg⟩ := hrel
  have HSl : Hid (S.data.toList.length = 5 * i' + 6) := by show _ = _; rw [Hs.out, nest_len, tx_len]
  have hSs : S.size = 5 * i' + 6 := by have := HSl.out; simpa using this
  have hS1 : S.size ≤ 100 := by omega
  clear hSs
  by_cases hlt : i' < K
  · have z1 : decide (i' < K) = true := decide_eq_true hlt
    obtain ⟨⟨b0, b1, b2, b3⟩, _, hbl⟩ := box4 Hb.out
    have hcat : ¬ 9223372036854775807 < 5 + S.size := by omega
    go_wp2_with fail
    refine (list_any [nest i' (txt ⟨#[116]⟩)] (.slice (some ⟨wr.heap.size, 0, none⟩) 1 1) (wr.alloc (.cells #[.int .i64 (nest i' (txt ⟨#[116]⟩)).k, .int .i64 (nest i' (txt ⟨#[116]⟩)).n, .string (nest i' (txt ⟨#[116]⟩)).s, .slice A (nest i' (txt ⟨#[116]⟩)).l.length c] 24)) ?hlx).mono ?_
    case hlx =>
      refine HL.laid [nest i' (txt ⟨#[116]⟩)] (heap_alloc_new _ _) (Nat.zero_le _) (by simp) 1 ?_
      intro m y hy
      match m, hy with
      | 0, hy =>
        cases hy
        exact ⟨rfl, rfl, rfl, _, _, _, rfl, (Hx.out.low (Nat.zero_le _)).kept (gb_alloc (gb_refl _ _) _)⟩
    rintro e w5 ⟨A5, c5, rfl, hl5, g5⟩
    have Hg5 := Lib.hid (gb_none (gb_alloc Hg.out _) g5)
    have Hb5 := Lib.hid (row_kept Hb.out (gb_none (gb_alloc (gb_refl wr none) _) g5))
    have Hl5 := Lib.hid (hl5.low (B' := w3.heap.size + 1 + 1) (by simp; omega))
    clear hl5 g5 b0 b1 b2 b3 hbl
    obtain ⟨⟨b0, b1, b2, b3⟩, ⟨f0, f1, f2, f3⟩, hbl⟩ := box4 Hb5.out
    have Hs5 := Lib.hid (three_app S i' (txt ⟨#[116]⟩) Hs.out)
    go_wp2_with fail
    go_roundw
    case rel =>
      refine ⟨i' + 1, three ++ S, A5, c5, by omega, by go_num, rfl, Hs5, ?_, ?_, ?_⟩
      · exact set4_row Hb5.out (.int .i64 3) (.int .i64 0) (.string ⟨#[]⟩) (.slice A5 1 c5)
      · refine Hl5.out.grown (gb_then (gb_then (gb_then (gb_set1 _ (w3.heap.size + 1) _ _) (gb_set1 _ _ _ _)) (gb_set1 _ _ _ _)) (gb_set1 _ _ _ _)) (fun m e => ?_)
        cases e; omega
      · exact gb_new4 (by omega) Hg5.out
    case measure => simp [intOf]; omega
  have z1 : decide (i' < K) = false := decide_eq_false hlt
  have Hk : Hid (i' = K) := by show _ = _; omega
  have Hget : Hid (get S.data.toList = none) := by show _ = _; rw [Hs.out, Hk.out]; exact Hget1.out
  rw [Hk.out] at Hb Hx
  clear hlt Hs hS1
  go_wp2_with fail
  refine (get_none S wr (by rw [HSl.out]; omega) Hget.out (HT.out.grown Hg.out)).mono ?_
  rintro e w5 ⟨rfl, g5⟩
  have Hg5 := Lib.hid (gb_none Hg.out g5)
  have Hb5 := Lib.hid (row_kept Hb.out g5)
  have Hx5 := Lib.hid ((Hx.out.low (Nat.zero_le _)).kept g5)
  clear g5
  obtain ⟨⟨b0, b1, b2, b3⟩, _, hbl⟩ := box4 Hb5.out
  go_wp2_with fail
  have hm := may_any (nest K (txt ⟨#[116]⟩)) (.slice A (nest K (txt ⟨#[116]⟩)).l.length c) (w5.alloc (.cells #[.int .i64 0, .int .i64 0, .string ⟨#[]⟩, .slice none 0 0] 24)) (Hx5.out.kept (gb_alloc (gb_refl _ _) _))
  rw [Hmay.out] at hm
  refine hm.mono ?_
  rintro e w6 ⟨rfl, g6⟩
  have Hg6 := Lib.hid (gb_none (gb_alloc Hg5.out _) g6)
  have Hx6 := Lib.hid (Hx5.out.kept (gb_none (gb_alloc (gb_refl w5 none) _) g6))
  have Hb6 := Lib.hid (row_kept Hb5.out (gb_none (gb_alloc (gb_refl w5 none) _) g6))
  clear g6 hm b0 b1 b2 b3 hbl
  obtain ⟨⟨b0, b1, b2, b3⟩, _, hbl⟩ := box4 Hb6.out
  go_wp2_with fail
  refine (put_no (nest K (txt ⟨#[116]⟩)) _ _ Hx6.out (by exact Hmay.out)).mono ?_
  rintro e w7 ⟨rfl, g7⟩
  have Hg7 := Lib.hid (gb_none Hg6.out g7)
  clear g7 b0 b1 b2 b3 hbl
  go_wp2_with fail
  refine (awake_any w7 (HT.out.grown Hg7.out)).mono ?_
  rintro e w8 ⟨rfl, g8⟩
  go_wp2_with fail
  go_ret
  exact ⟨rfl, below_of (gb_none Hg7.out g8)⟩
set_option maxHeartbeats 8000000 in
set_option maxRecDepth 100000 in
theorem deep_1n (a0 a1 : Int) (K : Nat) (hK11 : K ≤ 11) (hk0 : a0 % 12 = (K : Int)) (hj : a1 % 3 = 1) (h01 : 0 ≤ a0) (h02 : a0 ≤ 255) (h11 : 0 ≤ a1) (h12 : a1 ≤ 255) (hK : K + 0 ≤ 6) (w : World) (HT : Hid (ErrT w)) :
    Calls Tryd.prog 6 #[.int .u8 a0, .int .u8 a1] w fun e w' => e = .returned (.bool true) ∧ Below w.heap.size w w' := by
  have Hmay : Hid ((nest K (txt ⟨#[116]⟩)).may = true) := by show _ = _; unfold Wr.may; rw [nest_fit (txt ⟨#[116]⟩) 0 (txt_fit) K 6 (by decide)]; exact decide_eq_true (by omega)
  have Hin : Hid ((nest K (txt ⟨#[116]⟩)).in64 = true) := nest_in (txt ⟨#[116]⟩) (by decide) K
  have tk : decide (6 < (K : Int)) = false := decide_eq_false (by omega)
  go_enter Tryd.func6, Tryd.ntmps6
  go_wp2_with fail
  refine (num_any 5 _).mono ?_
  rintro e w1 ⟨rfl, g1⟩
  go_wp2_with fail
  refine (text_any ⟨#[116]⟩ _).mono ?_
  rintro e w2 ⟨rfl, g2⟩
  go_wp2_with fail
  refine (list_any [] (.slice none 0 0) w2 (.nil _ _)).mono ?_
  rintro e w3 ⟨A0, c0, rfl, _, g3⟩
  have Hg3 := Lib.hid (gb_none (gb_none g1 g2) g3)
  clear g1 g2 g3
  go_wp2_with fail
  have Hr3 := Lib.hid (show ((w3.alloc (.cells #[.int .i64 1, .int .i64 5, .string ⟨#[]⟩, .slice none 0 0, .int .i64 2, .int .i64 0, .string ⟨#[116]⟩, .slice none 0 0, .int .i64 3, .int .i64 0, .string ⟨#[]⟩, .slice A0 0 c0] 24)).alloc (.cells #[.int .i64 2, .int .i64 0, .string ⟨#[116]⟩, .slice none 0 0] 24)).heap[w3.heap.size + 1]? = some (.cells #[.int .i64 2, .int .i64 0, .string ⟨#[116]⟩, .slice none 0 0] 24 (0, 0)) from by have := heap_alloc_new (w3.alloc (.cells #[.int .i64 1, .int .i64 5, .string ⟨#[]⟩, .slice none 0 0, .int .i64 2, .int .i64 0, .string ⟨#[116]⟩, .slice none 0 0, .int .i64 3, .int .i64 0, .string ⟨#[]⟩, .slice A0 0 c0] 24)) (.cells #[.int .i64 2, .int .i64 0, .string ⟨#[116]⟩, .slice none 0 0] 24); simpa using this)
  refine (put_all (txt ⟨#[116]⟩) (.slice none 0 0) _ (.nil _ _) (by rw [tx_len]; decide)).mono ?_
  rintro e w4 ⟨rfl, g4⟩
  have Hr4 := Lib.hid (row_kept Hr3.out g4)
  have Hg4 := Lib.hid (gb_none (gb_alloc (gb_alloc Hg3.out _) _) g4)
  have hb6 : w3.heap.size + 1 < w4.heap.size := (Array.getElem?_eq_some_iff.1 Hr4.out).1
  have h36 : w.heap.size ≤ w3.heap.size := Hg3.out.size
  obtain ⟨S0, HS0⟩ : ∃ S0, Hid ((txt ⟨#[116]⟩).bytes = S0) := ⟨_, rfl⟩
  have HS0l : Hid (S0.data.toList = (txt ⟨#[116]⟩).enc) := by show _ = _; rw [← HS0.out]; exact bytes_len _ (by decide)
  rw [HS0.out]
  clear g4
  go_wp2_with fail
  go_loopw [7, 8] (fun s i wr => ∃ (i' : Nat) (S : ByteArray) (A : Option Addr) (c : Nat), i' ≤ K ∧ i = .int .i64 i' ∧ s = .string S ∧ Hid (S.data.toList = (nest i' (txt ⟨#[116]⟩)).enc) ∧ Hid (wr.heap[w3.heap.size + 1]? = some (.cells #[.int .i64 (nest i' (txt ⟨#[116]⟩)).k, .int .i64 (nest i' (txt ⟨#[116]⟩)).n, .string (nest i' (txt ⟨#[116]⟩)).s, .slice A (nest i' (txt ⟨#[116]⟩)).l.length c] 24 (0, 0))) ∧ Hid (HL wr (w3.heap.size + 1 + 1) (.slice A (nest i' (txt ⟨#[116]⟩)).l.length c) (nest i' (txt ⟨#[116]⟩)).l) ∧ Hid (w.grownBy wr none)) (fun _ i _ => K - (intOf i).toNat)
  case atStart => exact ⟨0, S0, none, 0, Nat.zero_le _, rfl, rfl, HS0l, Hr4, .nil _ _, Hg4⟩
  clear Hr4 Hg4 HS0l HS0 hb6
  obtain ⟨i', S, A, c, hi, rfl, rfl, Hs, Hb, Hx, Hg⟩ := hrel
  have HSl : Hid (S.data.toList.length = 5 * i' + 6) := by show _ = _; rw [Hs.out, nest_len, tx_len]
  have hSs : S.size = 5 * i' + 6 := by have := HSl.out; simpa using this
  have hS1 : S.size ≤ 100 := by omega
  clear hSs
  by_cases hlt : i' < K
  · have z1 : decide (i' < K) = true := decide_eq_true hlt
    obtain ⟨⟨b0, b1, b2, b3⟩, _, hbl⟩ := box4 Hb.out
    have hcat : ¬ 9223372036854775807 < 5 + S.size := by omega
    go_wp2_with fail
    refine (list_any [nest i' (txt ⟨#[116]⟩)] (.slice (some ⟨wr.heap.size, 0, none⟩) 1 1) (wr.alloc (.cells #[.int .i64 (nest i' (txt ⟨#[116]⟩)).k, .int .i64 (nest i' (txt ⟨#[116]⟩)).n, .string (nest i' (txt ⟨#[116]⟩)).s, .slice A (nest i' (txt ⟨#[116]⟩)).l.length c] 24)) ?hlx).mono ?_
    case hlx =>
      refine HL.laid [nest i' (txt ⟨#[116]⟩)] (heap_alloc_new _ _) (Nat.zero_le _) (by simp) 1 ?_
      intro m y hy
      match m, hy with
      | 0, hy =>
        cases hy
        exact ⟨rfl, rfl, rfl, _, _, _, rfl, (Hx.out.low (Nat.zero_le _)).kept (gb_alloc (gb_refl _ _) _)⟩
    rintro e w5 ⟨A5, c5, rfl, hl5, g5⟩
    have Hg5 := Lib.hid (gb_none (gb_alloc Hg.out _) g5)
    have Hb5 := Lib.hid (row_kept Hb.out (gb_none (gb_alloc (gb_refl wr none) _) g5))
    have Hl5 := Lib.hid (hl5.low (B' := w3.heap.size + 1 + 1) (by simp; omega))
    clear hl5 g5 b0 b1 b2 b3 hbl
    obtain ⟨⟨b0, b1, b2, b3⟩, ⟨f0, f1, f2, f3⟩, hbl⟩ := box4 Hb5.out
    have Hs5 := Lib.hid (three_app S i' (txt ⟨#[116]⟩) Hs.out)
    go_wp2_with fail
    go_roundw
    case rel =>
      refine ⟨i' + 1, three ++ S, A5, c5, by omega, by go_num, rfl, Hs5, ?_, ?_, ?_⟩
      · exact set4_row Hb5.out (.int .i64 3) (.int .i64 0) (.string ⟨#[]⟩) (.slice A5 1 c5)
      · refine Hl5.out.grown (gb_then (gb_then (gb_then (gb_set1 _ (w3.heap.size + 1) _ _) (gb_set1 _ _ _ _)) (gb_set1 _ _ _ _)) (gb_set1 _ _ _ _)) (fun m e => ?_)
        cases e; omega
      · exact gb_new4 (by omega) Hg5.out
    case measure => simp [intOf]; omega
  have z1 : decide (i' < K) = false := decide_eq_false hlt
  have Hk : Hid (i' = K) := by show _ = _; omega
  have Hget : Hid (get S.data.toList = some (nest K (txt ⟨#[116]⟩))) := by show _ = _; rw [Hs.out, Hk.out]; exact get_enc _ Hmay.out Hin.out
  have Hbytes : Hid ((nest K (txt ⟨#[116]⟩)).bytes = S) := by show _ = _; exact bytes_is _ S Hmay.out (by rw [Hs.out, Hk.out])
  rw [Hk.out] at Hb Hx
  clear hlt Hs hS1
  go_wp2_with fail
  refine (get_some S wr (by rw [HSl.out]; omega) (nest K (txt ⟨#[116]⟩)) Hget.out).mono ?_
  rintro e w5 ⟨Ag, cg, rfl, hlg, g5⟩
  have Hg5 := Lib.hid (gb_none Hg.out g5)
  have Hb5 := Lib.hid (row_kept Hb.out g5)
  have Hx5 := Lib.hid ((Hx.out.low (Nat.zero_le _)).kept g5)
  have Hlg5 := Lib.hid (hlg.low (Nat.zero_le _))
  clear g5 hlg
  obtain ⟨⟨b0, b1, b2, b3⟩, _, hbl⟩ := box4 Hb5.out
  go_wp2_with fail
  have hm := may_any (nest K (txt ⟨#[116]⟩)) (.slice A (nest K (txt ⟨#[116]⟩)).l.length c) (w5.alloc (.cells #[.int .i64 (nest K (txt ⟨#[116]⟩)).k, .int .i64 (nest K (txt ⟨#[116]⟩)).n, .string (nest K (txt ⟨#[116]⟩)).s, .slice Ag (nest K (txt ⟨#[116]⟩)).l.length cg] 24)) (Hx5.out.kept (gb_alloc (gb_refl _ _) _))
  rw [Hmay.out] at hm
  refine hm.mono ?_
  rintro e w6 ⟨rfl, g6⟩
  have Hg6 := Lib.hid (gb_none (gb_alloc Hg5.out _) g6)
  have Hx6 := Lib.hid (Hx5.out.kept (gb_none (gb_alloc (gb_refl w5 none) _) g6))
  have Hlg6 := Lib.hid (Hlg5.out.kept (gb_none (gb_alloc (gb_refl w5 none) _) g6))
  have Hb6 := Lib.hid (row_kept Hb5.out (gb_none (gb_alloc (gb_refl w5 none) _) g6))
  have Hn6 := Lib.hid (row_kept (heap_alloc_new w5 _) g6)
  clear g6 hm b0 b1 b2 b3 hbl
  obtain ⟨⟨b0, b1, b2, b3⟩, _, hbl⟩ := box4 Hb6.out
  go_wp2_with fail
  refine (put_all (nest K (txt ⟨#[116]⟩)) _ _ Hx6.out (by rw [nest_len, tx_len]; omega)).mono ?_
  rintro e w7 ⟨rfl, g7⟩
  rw [Hbytes.out]
  have Hg7 := Lib.hid (gb_none Hg6.out g7)
  have Hx7 := Lib.hid (Hx6.out.kept g7)
  have Hlg7 := Lib.hid (Hlg6.out.kept g7)
  have Hb7 := Lib.hid (row_kept Hb6.out g7)
  have Hn7 := Lib.hid (row_kept Hn6.out g7)
  clear g7 b0 b1 b2 b3 hbl
  obtain ⟨⟨b0, b1, b2, b3⟩, _, hbl⟩ := box4 Hb7.out
  obtain ⟨⟨n0, n1, n2, n3⟩, _, hnl⟩ := box4 Hn7.out
  have es := eq_self S
  go_wp2_with fail
  have hsm := same_any (nest K (txt ⟨#[116]⟩)) (nest K (txt ⟨#[116]⟩)) _ _ _ Hlg7.out Hx7.out
  rw [same_self] at hsm
  refine hsm.mono ?_
  rintro e w8 ⟨rfl, g8⟩
  have Hg8 := Lib.hid (gb_none Hg7.out g8)
  clear g8 b0 b1 b2 b3 hbl n0 n1 n2 n3 hnl hsm
  go_wp2_with fail
  refine (awake_any w8 (HT.out.grown Hg8.out)).mono ?_
  rintro e w9 ⟨rfl, g9⟩
  go_wp2_with fail
  go_ret
  exact ⟨rfl, below_of (gb_none Hg8.out g9)⟩
set_option maxHeartbeats 8000000 in
set_option maxRecDepth 100000 in
theorem deep_2d (a0 a1 : Int) (K : Nat) (hK11 : K ≤ 11) (hk0 : a0 % 12 = (K : Int)) (hj : a1 % 3 = 2) (h01 : 0 ≤ a0) (h02 : a0 ≤ 255) (h11 : 0 ≤ a1) (h12 : a1 ≤ 255) (hK : 6 < K + 1) (w : World) (HT : Hid (ErrT w)) :
    Calls Tryd.prog 6 #[.int .u8 a0, .int .u8 a1] w fun e w' => e = .returned (.bool true) ∧ Below w.heap.size w w' := by
  have Hmay : Hid ((nest K (lst [])).may = false) := by show _ = _; unfold Wr.may; rw [nest_fit (lst []) 1 (lst_fit) K 6 (by decide)]; exact decide_eq_false (by omega)
  have Hget1 : Hid (get (nest K (lst [])).enc = none) := nest_get (lst []) 1 (lst_deep) K hK
  have tk : decide (6 < ((K : Int) + 1)) = true := decide_eq_true (by omega)
  go_enter Tryd.func6, Tryd.ntmps6
  go_wp2_with fail
  refine (num_any 5 _).mono ?_
  rintro e w1 ⟨rfl, g1⟩
  go_wp2_with fail
  refine (text_any ⟨#[116]⟩ _).mono ?_
  rintro e w2 ⟨rfl, g2⟩
  go_wp2_with fail
  refine (list_any [] (.slice none 0 0) w2 (.nil _ _)).mono ?_
  rintro e w3 ⟨A0, c0, rfl, _, g3⟩
  have Hg3 := Lib.hid (gb_none (gb_none g1 g2) g3)
  clear g1 g2 g3
  go_wp2_with fail
  have Hr3 := Lib.hid (show ((w3.alloc (.cells #[.int .i64 1, .int .i64 5, .string ⟨#[]⟩, .slice none 0 0, .int .i64 2, .int .i64 0, .string ⟨#[116]⟩, .slice none 0 0, .int .i64 3, .int .i64 0, .string ⟨#[]⟩, .slice A0 0 c0] 24)).alloc (.cells #[.int .i64 3, .int .i64 0, .string ⟨#[]⟩, .slice A0 0 c0] 24)).heap[w3.heap.size + 1]? = some (.cells #[.int .i64 3, .int .i64 0, .string ⟨#[]⟩, .slice A0 0 c0] 24 (0, 0)) from by have := heap_alloc_new (w3.alloc (.cells #[.int .i64 1, .int .i64 5, .string ⟨#[]⟩, .slice none 0 0, .int .i64 2, .int .i64 0, .string ⟨#[116]⟩, .slice none 0 0, .int .i64 3, .int .i64 0, .string ⟨#[]⟩, .slice A0 0 c0] 24)) (.cells #[.int .i64 3, .int .i64 0, .string ⟨#[]⟩, .slice A0 0 c0] 24); simpa using this)
  refine (put_all (lst []) (.slice A0 0 c0) _ (.nil _ _) (by rw [ls_len]; decide)).mono ?_
  rintro e w4 ⟨rfl, g4⟩
  have Hr4 := Lib.hid (row_kept Hr3.out g4)
  have Hg4 := Lib.hid (gb_none (gb_alloc (gb_alloc Hg3.out _) _) g4)
  have hb6 : w3.heap.size + 1 < w4.heap.size := (Array.getElem?_eq_some_iff.1 Hr4.out).1
  have h36 : w.heap.size ≤ w3.heap.size := Hg3.out.size
  obtain ⟨S0, HS0⟩ : ∃ S0, Hid ((lst []).bytes = S0) := ⟨_, rfl⟩
  have HS0l : Hid (S0.data.toList = (lst []).enc) := by show _ = _; rw [← HS0.out]; exact bytes_len _ (by decide)
  rw [HS0.out]
  clear g4
  go_wp2_with fail
  go_loopw [7, 8] (fun s i wr => ∃ (i' : Nat) (S : ByteArray) (A : Option Addr) (c : Nat), i' ≤ K ∧ i = .int .i64 i' ∧ s = .string S ∧ Hid (S.data.toList = (nest i' (lst [])).enc) ∧ Hid (wr.heap[w3.heap.size + 1]? = some (.cells #[.int .i64 (nest i' (lst [])).k, .int .i64 (nest i' (lst [])).n, .string (nest i' (lst [])).s, .slice A (nest i' (lst [])).l.length c] 24 (0, 0))) ∧ Hid (HL wr (w3.heap.size + 1 + 1) (.slice A (nest i' (lst [])).l.length c) (nest i' (lst [])).l) ∧ Hid (w.grownBy wr none)) (fun _ i _ => K - (intOf i).toNat)
  case atStart => exact ⟨0, S0, A0, c0, Nat.zero_le _, rfl, rfl, HS0l, Hr4, .nil _ _, Hg4⟩
  clear Hr4 Hg4 HS0l HS0 hb6
  obtain ⟨i', S, A, c, hi, rfl, rfl, Hs, Hb, Hx, Hg⟩ := hrel
  have HSl : Hid (S.data.toList.length = 5 * i' + 5) := by show _ = _; rw [Hs.out, nest_len, ls_len]
  have hSs : S.size = 5 * i' + 5 := by have := HSl.out; simpa using this
  have hS1 : S.size ≤ 100 := by omega
  clear hSs
  by_cases hlt : i' < K
  · have z1 : decide (i' < K) = true := decide_eq_true hlt
    obtain ⟨⟨b0, b1, b2, b3⟩, _, hbl⟩ := box4 Hb.out
    have hcat : ¬ 9223372036854775807 < 5 + S.size := by omega
    go_wp2_with fail
    refine (list_any [nest i' (lst [])] (.slice (some ⟨wr.heap.size, 0, none⟩) 1 1) (wr.alloc (.cells #[.int .i64 (nest i' (lst [])).k, .int .i64 (nest i' (lst [])).n, .string (nest i' (lst [])).s, .slice A (nest i' (lst [])).l.length c] 24)) ?hlx).mono ?_
    case hlx =>
      refine HL.laid [nest i' (lst [])] (heap_alloc_new _ _) (Nat.zero_le _) (by simp) 1 ?_
      intro m y hy
      match m, hy with
      | 0, hy =>
        cases hy
        exact ⟨rfl, rfl, rfl, _, _, _, rfl, (Hx.out.low (Nat.zero_le _)).kept (gb_alloc (gb_refl _ _) _)⟩
    rintro e w5 ⟨A5, c5, rfl, hl5, g5⟩
    have Hg5 := Lib.hid (gb_none (gb_alloc Hg.out _) g5)
    have Hb5 := Lib.hid (row_kept Hb.out (gb_none (gb_alloc (gb_refl wr none) _) g5))
    have Hl5 := Lib.hid (hl5.low (B' := w3.heap.size + 1 + 1) (by simp; omega))
    clear hl5 g5 b0 b1 b2 b3 hbl
    obtain ⟨⟨b0, b1, b2, b3⟩, ⟨f0, f1, f2, f3⟩, hbl⟩ := box4 Hb5.out
    have Hs5 := Lib.hid (three_app S i' (lst []) Hs.out)
    go_wp2_with fail
    go_roundw
    case rel =>
      refine ⟨i' + 1, three ++ S, A5, c5, by omega, by go_num, rfl, Hs5, ?_, ?_, ?_⟩
      · exact set4_row Hb5.out (.int .i64 3) (.int .i64 0) (.string ⟨#[]⟩) (.slice A5 1 c5)
      · refine Hl5.out.grown (gb_then (gb_then (gb_then (gb_set1 _ (w3.heap.size + 1) _ _) (gb_set1 _ _ _ _)) (gb_set1 _ _ _ _)) (gb_set1 _ _ _ _)) (fun m e => ?_)
        cases e; omega
      · exact gb_new4 (by omega) Hg5.out
    case measure => simp [intOf]; omega
  have z1 : decide (i' < K) = false := decide_eq_false hlt
  have Hk : Hid (i' = K) := by show _ = _; omega
  have Hget : Hid (get S.data.toList = none) := by show _ = _; rw [Hs.out, Hk.out]; exact Hget1.out
  rw [Hk.out] at Hb Hx
  clear hlt Hs hS1
  go_wp2_with fail
  refine (get_none S wr (by rw [HSl.out]; omega) Hget.out (HT.out.grown Hg.out)).mono ?_
  rintro e w5 ⟨rfl, g5⟩
  have Hg5 := Lib.hid (gb_none Hg.out g5)
  have Hb5 := Lib.hid (row_kept Hb.out g5)
  have Hx5 := Lib.hid ((Hx.out.low (Nat.zero_le _)).kept g5)
  clear g5
  obtain ⟨⟨b0, b1, b2, b3⟩, _, hbl⟩ := box4 Hb5.out
  go_wp2_with fail
  have hm := may_any (nest K (lst [])) (.slice A (nest K (lst [])).l.length c) (w5.alloc (.cells #[.int .i64 0, .int .i64 0, .string ⟨#[]⟩, .slice none 0 0] 24)) (Hx5.out.kept (gb_alloc (gb_refl _ _) _))
  rw [Hmay.out] at hm
  refine hm.mono ?_
  rintro e w6 ⟨rfl, g6⟩
  have Hg6 := Lib.hid (gb_none (gb_alloc Hg5.out _) g6)
  have Hx6 := Lib.hid (Hx5.out.kept (gb_none (gb_alloc (gb_refl w5 none) _) g6))
  have Hb6 := Lib.hid (row_kept Hb5.out (gb_none (gb_alloc (gb_refl w5 none) _) g6))
  clear g6 hm b0 b1 b2 b3 hbl
  obtain ⟨⟨b0, b1, b2, b3⟩, _, hbl⟩ := box4 Hb6.out
  go_wp2_with fail
  refine (put_no (nest K (lst [])) _ _ Hx6.out (by exact Hmay.out)).mono ?_
  rintro e w7 ⟨rfl, g7⟩
  have Hg7 := Lib.hid (gb_none Hg6.out g7)
  clear g7 b0 b1 b2 b3 hbl
  go_wp2_with fail
  refine (awake_any w7 (HT.out.grown Hg7.out)).mono ?_
  rintro e w8 ⟨rfl, g8⟩
  go_wp2_with fail
  go_ret
  exact ⟨rfl, below_of (gb_none Hg7.out g8)⟩
set_option maxHeartbeats 8000000 in
set_option maxRecDepth 100000 in
theorem deep_2n (a0 a1 : Int) (K : Nat) (hK11 : K ≤ 11) (hk0 : a0 % 12 = (K : Int)) (hj : a1 % 3 = 2) (h01 : 0 ≤ a0) (h02 : a0 ≤ 255) (h11 : 0 ≤ a1) (h12 : a1 ≤ 255) (hK : K + 1 ≤ 6) (w : World) (HT : Hid (ErrT w)) :
    Calls Tryd.prog 6 #[.int .u8 a0, .int .u8 a1] w fun e w' => e = .returned (.bool true) ∧ Below w.heap.size w w' := by
  have Hmay : Hid ((nest K (lst [])).may = true) := by show _ = _; unfold Wr.may; rw [nest_fit (lst []) 1 (lst_fit) K 6 (by decide)]; exact decide_eq_true (by omega)
  have Hin : Hid ((nest K (lst [])).in64 = true) := nest_in (lst []) (by decide) K
  have tk : decide (6 < ((K : Int) + 1)) = false := decide_eq_false (by omega)
  go_enter Tryd.func6, Tryd.ntmps6
  go_wp2_with fail
  refine (num_any 5 _).mono ?_
  rintro e w1 ⟨rfl, g1⟩
  go_wp2_with fail
  refine (text_any ⟨#[116]⟩ _).mono ?_
  rintro e w2 ⟨rfl, g2⟩
  go_wp2_with fail
  refine (list_any [] (.slice none 0 0) w2 (.nil _ _)).mono ?_
  rintro e w3 ⟨A0, c0, rfl, _, g3⟩
  have Hg3 := Lib.hid (gb_none (gb_none g1 g2) g3)
  clear g1 g2 g3
  go_wp2_with fail
  have Hr3 := Lib.hid (show ((w3.alloc (.cells #[.int .i64 1, .int .i64 5, .string ⟨#[]⟩, .slice none 0 0, .int .i64 2, .int .i64 0, .string ⟨#[116]⟩, .slice none 0 0, .int .i64 3, .int .i64 0, .string ⟨#[]⟩, .slice A0 0 c0] 24)).alloc (.cells #[.int .i64 3, .int .i64 0, .string ⟨#[]⟩, .slice A0 0 c0] 24)).heap[w3.heap.size + 1]? = some (.cells #[.int .i64 3, .int .i64 0, .string ⟨#[]⟩, .slice A0 0 c0] 24 (0, 0)) from by have := heap_alloc_new (w3.alloc (.cells #[.int .i64 1, .int .i64 5, .string ⟨#[]⟩, .slice none 0 0, .int .i64 2, .int .i64 0, .string ⟨#[116]⟩, .slice none 0 0, .int .i64 3, .int .i64 0, .string ⟨#[]⟩, .slice A0 0 c0] 24)) (.cells #[.int .i64 3, .int .i64 0, .string ⟨#[]⟩, .slice A0 0 c0] 24); simpa using this)
  refine (put_all (lst []) (.slice A0 0 c0) _ (.nil _ _) (by rw [ls_len]; decide)).mono ?_
  rintro e w4 ⟨rfl, g4⟩
  have Hr4 := Lib.hid (row_kept Hr3.out g4)
  have Hg4 := Lib.hid (gb_none (gb_alloc (gb_alloc Hg3.out _) _) g4)
  have hb6 : w3.heap.size + 1 < w4.heap.size := (Array.getElem?_eq_some_iff.1 Hr4.out).1
  have h36 : w.heap.size ≤ w3.heap.size := Hg3.out.size
  obtain ⟨S0, HS0⟩ : ∃ S0, Hid ((lst []).bytes = S0) := ⟨_, rfl⟩
  have HS0l : Hid (S0.data.toList = (lst []).enc) := by show _ = _; rw [← HS0.out]; exact bytes_len _ (by decide)
  rw [HS0.out]
  clear g4
  go_wp2_with fail
  go_loopw [7, 8] (fun s i wr => ∃ (i' : Nat) (S : ByteArray) (A : Option Addr) (c : Nat), i' ≤ K ∧ i = .int .i64 i' ∧ s = .string S ∧ Hid (S.data.toList = (nest i' (lst [])).enc) ∧ Hid (wr.heap[w3.heap.size + 1]? = some (.cells #[.int .i64 (nest i' (lst [])).k, .int .i64 (nest i' (lst [])).n, .string (nest i' (lst [])).s, .slice A (nest i' (lst [])).l.length c] 24 (0, 0))) ∧ Hid (HL wr (w3.heap.size + 1 + 1) (.slice A (nest i' (lst [])).l.length c) (nest i' (lst [])).l) ∧ Hid (w.grownBy wr none)) (fun _ i _ => K - (intOf i).toNat)
  case atStart => exact ⟨0, S0, A0, c0, Nat.zero_le _, rfl, rfl, HS0l, Hr4, .nil _ _, Hg4⟩
  clear Hr4 Hg4 HS0l HS0 hb6
  obtain ⟨i', S, A, c, hi, rfl, rfl, Hs, Hb, Hx, Hg⟩ := hrel
  have HSl : Hid (S.data.toList.length = 5 * i' + 5) := by show _ = _; rw [Hs.out, nest_len, ls_len]
  have hSs : S.size = 5 * i' + 5 := by have := HSl.out; simpa using this
  have hS1 : S.size ≤ 100 := by omega
  clear hSs
  by_cases hlt : i' < K
  · have z1 : decide (i' < K) = true := decide_eq_true hlt
    obtain ⟨⟨b0, b1, b2, b3⟩, _, hbl⟩ := box4 Hb.out
    have hcat : ¬ 9223372036854775807 < 5 + S.size := by omega
    go_wp2_with fail
    refine (list_any [nest i' (lst [])] (.slice (some ⟨wr.heap.size, 0, none⟩) 1 1) (wr.alloc (.cells #[.int .i64 (nest i' (lst [])).k, .int .i64 (nest i' (lst [])).n, .string (nest i' (lst [])).s, .slice A (nest i' (lst [])).l.length c] 24)) ?hlx).mono ?_
    case hlx =>
      refine HL.laid [nest i' (lst [])] (heap_alloc_new _ _) (Nat.zero_le _) (by simp) 1 ?_
      intro m y hy
      match m, hy with
      | 0, hy =>
        cases hy
        exact ⟨rfl, rfl, rfl, _, _, _, rfl, (Hx.out.low (Nat.zero_le _)).kept (gb_alloc (gb_refl _ _) _)⟩
    rintro e w5 ⟨A5, c5, rfl, hl5, g5⟩
    have Hg5 := Lib.hid (gb_none (gb_alloc Hg.out _) g5)
    have Hb5 := Lib.hid (row_kept Hb.out (gb_none (gb_alloc (gb_refl wr none) _) g5))
    have Hl5 := Lib.hid (hl5.low (B' := w3.heap.size + 1 + 1) (by simp; omega))
    clear hl5 g5 b0 b1 b2 b3 hbl
    obtain ⟨⟨b0, b1, b2, b3⟩, ⟨f0, f1, f2, f3⟩, hbl⟩ := box4 Hb5.out
    have Hs5 := Lib.hid (three_app S i' (lst []) Hs.out)
    go_wp2_with fail
    go_roundw
    case rel =>
      refine ⟨i' + 1, three ++ S, A5, c5, by omega, by go_num, rfl, Hs5, ?_, ?_, ?_⟩
      · exact set4_row Hb5.out (.int .i64 3) (.int .i64 0) (.string ⟨#[]⟩) (.slice A5 1 c5)
      · refine Hl5.out.grown (gb_then (gb_then (gb_then (gb_set1 _ (w3.heap.size + 1) _ _) (gb_set1 _ _ _ _)) (gb_set1 _ _ _ _)) (gb_set1 _ _ _ _)) (fun m e => ?_)
        cases e; omega
      · exact gb_new4 (by omega) Hg5.out
    case measure => simp [intOf]; omega
  have z1 : decide (i' < K) = false := decide_eq_false hlt
  have Hk : Hid (i' = K) := by show _ = _; omega
  have Hget : Hid (get S.data.toList = some (nest K (lst []))) := by show _ = _; rw [Hs.out, Hk.out]; exact get_enc _ Hmay.out Hin.out
  have Hbytes : Hid ((nest K (lst [])).bytes = S) := by show _ = _; exact bytes_is _ S Hmay.out (by rw [Hs.out, Hk.out])
  rw [Hk.out] at Hb Hx
  clear hlt Hs hS1
  go_wp2_with fail
  refine (get_some S wr (by rw [HSl.out]; omega) (nest K (lst [])) Hget.out).mono ?_
  rintro e w5 ⟨Ag, cg, rfl, hlg, g5⟩
  have Hg5 := Lib.hid (gb_none Hg.out g5)
  have Hb5 := Lib.hid (row_kept Hb.out g5)
  have Hx5 := Lib.hid ((Hx.out.low (Nat.zero_le _)).kept g5)
  have Hlg5 := Lib.hid (hlg.low (Nat.zero_le _))
  clear g5 hlg
  obtain ⟨⟨b0, b1, b2, b3⟩, _, hbl⟩ := box4 Hb5.out
  go_wp2_with fail
  have hm := may_any (nest K (lst [])) (.slice A (nest K (lst [])).l.length c) (w5.alloc (.cells #[.int .i64 (nest K (lst [])).k, .int .i64 (nest K (lst [])).n, .string (nest K (lst [])).s, .slice Ag (nest K (lst [])).l.length cg] 24)) (Hx5.out.kept (gb_alloc (gb_refl _ _) _))
  rw [Hmay.out] at hm
  refine hm.mono ?_
  rintro e w6 ⟨rfl, g6⟩
  have Hg6 := Lib.hid (gb_none (gb_alloc Hg5.out _) g6)
  have Hx6 := Lib.hid (Hx5.out.kept (gb_none (gb_alloc (gb_refl w5 none) _) g6))
  have Hlg6 := Lib.hid (Hlg5.out.kept (gb_none (gb_alloc (gb_refl w5 none) _) g6))
  have Hb6 := Lib.hid (row_kept Hb5.out (gb_none (gb_alloc (gb_refl w5 none) _) g6))
  have Hn6 := Lib.hid (row_kept (heap_alloc_new w5 _) g6)
  clear g6 hm b0 b1 b2 b3 hbl
  obtain ⟨⟨b0, b1, b2, b3⟩, _, hbl⟩ := box4 Hb6.out
  go_wp2_with fail
  refine (put_all (nest K (lst [])) _ _ Hx6.out (by rw [nest_len, ls_len]; omega)).mono ?_
  rintro e w7 ⟨rfl, g7⟩
  rw [Hbytes.out]
  have Hg7 := Lib.hid (gb_none Hg6.out g7)
  have Hx7 := Lib.hid (Hx6.out.kept g7)
  have Hlg7 := Lib.hid (Hlg6.out.kept g7)
  have Hb7 := Lib.hid (row_kept Hb6.out g7)
  have Hn7 := Lib.hid (row_kept Hn6.out g7)
  clear g7 b0 b1 b2 b3 hbl
  obtain ⟨⟨b0, b1, b2, b3⟩, _, hbl⟩ := box4 Hb7.out
  obtain ⟨⟨n0, n1, n2, n3⟩, _, hnl⟩ := box4 Hn7.out
  have es := eq_self S
  go_wp2_with fail
  have hsm := same_any (nest K (lst [])) (nest K (lst [])) _ _ _ Hlg7.out Hx7.out
  rw [same_self] at hsm
  refine hsm.mono ?_
  rintro e w8 ⟨rfl, g8⟩
  have Hg8 := Lib.hid (gb_none Hg7.out g8)
  clear g8 b0 b1 b2 b3 hbl n0 n1 n2 n3 hnl hsm
  go_wp2_with fail
  refine (awake_any w8 (HT.out.grown Hg8.out)).mono ?_
  rintro e w9 ⟨rfl, g9⟩
  go_wp2_with fail
  go_ret
  exact ⟨rfl, below_of (gb_none Hg8.out g9)⟩

set_option maxHeartbeats 40000000 in
set_option maxRecDepth 100000 in
theorem walk (a0 : Int) (a1 : Int) (w0 : (Lit.int .u8 a0).wf = true) (w1 : (Lit.int .u8 a1).wf = true) (w : World) (hT : ErrT w) :
    Calls Tryd.prog 6 #[.int .u8 a0, .int .u8 a1] w fun e w' => e = .returned (.bool true) ∧ Below w.heap.size w w' := by
  obtain ⟨h01, h02⟩ := u8_of w0
  obtain ⟨h11, h12⟩ := u8_of w1
  obtain ⟨K, hk0, hK11⟩ : ∃ K : Nat, a0 % 12 = (K : Int) ∧ K ≤ 11 := ⟨(a0 % 12).toNat, by omega, by omega⟩
  have hj : a1 % 3 = 0 ∨ a1 % 3 = 1 ∨ a1 % 3 = 2 := by omega
  rcases hj with h | h | h
  · by_cases hK : 6 < K + 0
    · exact deep_0d a0 a1 K hK11 hk0 h h01 h02 h11 h12 hK w hT
    · exact deep_0n a0 a1 K hK11 hk0 h h01 h02 h11 h12 (by omega) w hT
  · by_cases hK : 6 < K + 0
    · exact deep_1d a0 a1 K hK11 hk0 h h01 h02 h11 h12 hK w hT
    · exact deep_1n a0 a1 K hK11 hk0 h h01 h02 h11 h12 (by omega) w hT
  · by_cases hK : 6 < K + 1
    · exact deep_2d a0 a1 K hK11 hk0 h h01 h02 h11 h12 hK w hT
    · exact deep_2n a0 a1 K hK11 hk0 h h01 h02 h11 h12 (by omega) w hT

theorem et : Tryd.prog.globalNamed "errors.errorType" = some 0 := by kernel_rfl
theorem rt : (Tryd.prog.cutTypes.find? (·.1 == "internal/reflectlite.rtype")).map (·.2) = some 108 := by kernel_rfl
theorem one_error : ((List.range 148).filter fun t => Tryd.prog.rowNamed t [101, 114, 114, 111, 114]) = [59] := by kernel_rfl
theorem how_many : Tryd.prog.types.size = 148 := by kernel_rfl
theorem handle : typeHandle Tryd.prog 59 = .pointer (some ⟨2, 59, none⟩) := by kernel_rfl
theorem errT {W : World} (h : laidMetH Tryd.prog Rows.wireDeepRow.laid W) : ErrT W := by
  obtain ⟨n, u, t, hn, hu, ht, hr, hc⟩ := (laidMetH_iff.1 h).2 _ (List.mem_singleton.2 rfl)
  obtain rfl := Option.some.inj hn
  obtain rfl := Option.some.inj (rt.symm.trans hu)
  have hin : t ∈ [59] := by
    rw [← one_error]
    exact List.mem_filter.2 ⟨List.mem_range.2 (how_many ▸ ht), hr⟩
  obtain rfl := List.mem_singleton.1 hin
  rw [handle] at hc
  have := World.var?_cell et hc 0
  unfold ErrT
  simpa using this
set_option maxRecDepth 100000 in
theorem contract (H : Type) (enc : TypeId × Value → H) (W : World) (base : Nat) (args : Array Value) (ds gs : List (DataW H)) (before : List MemPlace)
    (hval0 : ∀ (j : Nat) t v, Tryd.f6.params[j]? = some t → args[j]? = some v → Value.okWide Tryd.prog W .any base t v)
    (hW : DataW.Whole enc Tryd.prog Tryd.f6.params.toList Rows.wireDeepSpec.vars false W args.toList ds gs before) (hL : laidMetH Tryd.prog Rows.wireDeepRow.laid W) :
    Calls Tryd.prog 6 args W fun e W' => ∃ v, e = .returned v ∧ Rows.wireDeepSpec.post enc Tryd.prog Tryd.f6 false true false false W args v W' := by
  have hval : ∀ (j : Nat) t v, Tryd.f6.params[j]? = some t → args[j]? = some v → Value.okWide Tryd.prog W .any base t v := hval0
  have hW' := hW
  obtain ⟨p, q, hA0, hV, rfl, hfz, hnd⟩ := hW
  have hA : DataW.TrodAll enc Tryd.prog W 0 (fun _ => true) true Tryd.f6.params.toList args.toList ds p := hA0
  rw [Tryd.params6] at hA hval
  obtain ⟨v0, vs0, d0, ds0, p0, q0, hargs, rfl, rfl, h0, r0⟩ := trodAll_cons hA
  obtain ⟨v1, vs1, d1, ds1, p1, q1, rfl, rfl, rfl, h1, r1⟩ := trodAll_cons r0
  obtain ⟨rfl, rfl, rfl⟩ := trodAll_nil r1
  obtain rfl : args = #[v0, v1] := by cases args; simp_all
  obtain ⟨rfl, rfl⟩ := trodVars_none hV
  obtain ⟨a0, rfl, rfl, rfl, w0⟩ := open_int Tryd.underlying5 (hval 0 5 v0 rfl rfl) h0
  obtain ⟨a1, rfl, rfl, rfl, w1⟩ := open_int Tryd.underlying5 (hval 1 5 v1 rfl rfl) h1
  clear hA0 hval0
  simp only [List.append_nil] at hW'
  refine (walk a0 a1 w0 w1 W (errT hL)).mono fun e W' ⟨he, hg⟩ => ?_
  subst he
  exact ⟨_, rfl, _, _, _, [], [], [], hW', (trodAll_cons_mk (shut_bool Tryd.underlying4 _) trodAll_mk0), (trodAll_cons_mk (shut_int Tryd.underlying5 w0) (trodAll_cons_mk (shut_int Tryd.underlying5 w1) trodAll_mk0)), rfl, hg.frame _, fun h => by cases h⟩

def lay (cs : Array Value) : Obj → Obj
  | .cells _ t frozen => .cells cs t frozen
  | o => o
noncomputable def laidWorld (os : Os) : World :=
  { World.holding Tryd.prog os ⟨#[], #[], []⟩ with heap := (World.holding Tryd.prog os ⟨#[], #[], []⟩).heap.modify 0 (lay #[.iface 108 (.agg #[.pointer (some ⟨2, 59, none⟩)])]) }
theorem laid_met (os : Os) : laidMetH Tryd.prog Rows.wireDeepRow.laid ((laidWorld os).forCall (fun _ _ => 0) ⟨#[], #[.int .u8 0, .int .u8 0], []⟩).memory :=
  laidMetH_of_parts (laidMet_nil _ _) (by kernel_rfl)
theorem reads (os : Os) {H : Type} (enc : TypeId × Value → H) : ∃ places, DataW.whole enc Tryd.prog ((laidWorld os).forCall (fun _ _ => 0) ⟨#[], #[.int .u8 0, .int .u8 0], []⟩).memory Tryd.f6.params.toList Rows.wireDeepSpec.vars false (show Array Value from #[.int .u8 0, .int .u8 0]).toList 8 = some ([.lit (.int .u8 0), .lit (.int .u8 0)], [], places) :=
  ⟨[], by kernel_rfl⟩

set_option maxRecDepth 100000 in
theorem lifted (os : Os) (started : os.Started) (H : Type) (enc : TypeId × Value → H) (F : Stop.Interp) :
    ReturnsInHanded {} Tryd.checked os 6 .any ((OpenSpec.ofChange Rows.wireDeepSpec).preRow enc Tryd.prog Tryd.f6 Rows.wireDeepRow.domain false Rows.wireDeepRow.laid) (((OpenSpec.ofChange Rows.wireDeepSpec).at F).post enc Tryd.prog Tryd.f6 false true false false) := by
  obtain ⟨places, hx⟩ := reads os enc
  refine returnsInHanded_of_row (C := Tryd.checked) (s := OpenSpec.ofChange Rows.wireDeepSpec) own started (by kernel_rfl) Tryd.func6
    (witness_row_at (enc := enc) (C := Tryd.checked) false (laidWorld os) #[.int .u8 0, .int .u8 0] rfl (by kernel_rfl) (by kernel_rfl) (by kernel_rfl)
      (OpenSpec.preRow_of_cond 8 hx (by kernel_rfl) (fun k hk => by cases hk) (by kernel_rfl) (laid_met os))) ?_
  intro W base args ds gs before hval hW _ _ _ hL _ _
  exact contract H enc W base args ds gs before hval hW hL

theorem said : Rows.WireDeepSaid :=
  OpenClaim.holds_of_cond 6 Tryd.f6 rfl rfl rfl rfl rfl rfl rfl ⟨rfl, rfl, rfl, rfl, rfl⟩ rfl rfl rfl rfl rfl (by kernel_rfl) Tryd.func6 (by kernel_rfl)
    (of_decide_eq_true (by kernel_rfl)) (by unfold Func.isWrapper; first | (rw [if_pos (by decide +kernel)]; kernel_rfl) | (rw [if_neg (by decide +kernel)]; exact ⟨rfl, rfl⟩))
    (fun os started H enc _ F => by rw [OpenClaim.pre_eq_preRow]; exact lifted os started H enc F)

theorem plain (f : FuncId) (fn : Func) (hf : Tryd.pinned.checked.prog.funcNamed "deaddrop/deaddroplaw4.WireDeep" = some f) (hfn : Tryd.pinned.checked.prog.funcs[f]? = some fn) :
    true = Tryd.pinned.checked.prog.looks [] ∧ ∀ (j : Nat) t, fn.params[j]? = some t → Tryd.pinned.checked.prog.wantsStandIn t = false := by
  obtain rfl : f = 6 := Option.some.inj ((show Tryd.prog.funcNamed "deaddrop/deaddroplaw4.WireDeep" = some 6 by kernel_rfl).symm.trans hf) |>.symm
  obtain rfl : fn = Tryd.f6 := (Option.some.inj (Tryd.func6.symm.trans hfn)).symm
  refine ⟨by kernel_rfl, fun j t ht => ?_⟩
  have hall : (Tryd.f6.params.toList.all fun u => !Tryd.prog.wantsStandIn u) = true := by kernel_rfl
  have hm : t ∈ Tryd.f6.params.toList := by simpa using Array.mem_of_getElem? ht
  exact (show Tryd.prog.wantsStandIn t = false by simpa using List.all_eq_true.1 hall t hm)

theorem card : Rows.WireDeepCardSaid :=
  Claim7.holds_tied_plain_at .later [] _ _ _ _ said (fun _ h => by cases h) (by kernel_rfl) (fun _ h => by cases h) wireDeep_row_tie rfl ⟨rfl, rfl⟩ (by kernel_rfl) rfl plain (by kernel_rfl)
#print axioms card
end Go.Proofs.YtbammjhafgbfkaaDoor.wireDeep
