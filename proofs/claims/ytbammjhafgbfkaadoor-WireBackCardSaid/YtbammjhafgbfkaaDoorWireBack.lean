/-
  Proved: whatever values of its parameters' types it is called with, deaddroplaw4.WireBack returns true, and each argument reads behind the call as it read before; the library's variable errors.errorType being what the program's own text lays (the card ties it).
  Conditions: none but those of the card itself.
-/
import Derived.Test.YtbammjhafgbfkaaDoorCards
import Derived.Test.YtbammjhafgbfkaaDoorTie
import Derived.WalkKit
import Derived.ProofKit
import Derived.OpenShut
import Derived.ShutString
import Derived.Below
import Derived.Deep.DeepHandedRow
import Derived.LaidSub
import Derived.LaidHandle
import Derived.LaidLaws
import Derived.RowKitTokens
import Derived.Test.YtbammjhafgbfkaaDoorVMake
import Derived.Test.YtbammjhafgbfkaaDoorRowF
import Derived.IntWalk
import Derived.Outline
namespace Go.Proofs.YtbammjhafgbfkaaDoor.wireBack
open Go.ChangeShapes Go.WideShapes Go.ChangeAt Go.RowKit
open Go.ChangeMaps (open_string shut_string)
open Go.Proofs.YtbammjhafgbfkaaDoor.Wd Go.Proofs.YtbammjhafgbfkaaDoor.Mm Go.Proofs.YtbammjhafgbfkaaDoor.Vw
set_option linter.unusedVariables false

theorem own : ownKnob Tryd.prog.godebug = none := by kernel_rfl
theorem laidOut : laidOutB Tryd.prog = true := by kernel_rfl

/-- WHAT THE WALK IS TOLD OF A SLICE OF INTEGERS THAT CAME IN: it is nil; or it leads to a row of 'cap' cells, the numbers 'zs' (the first 'len' are its elements, the rest its spare room), each fitting its kind. -/
def IsRow (k : IntKind) (w : World) (a : Option Addr) (len cap : Nat) (zs : List Int) : Prop :=
  (a = none ∧ len = 0 ∧ cap = 0 ∧ zs = []) ∨
  ∃ x, a = some x ∧ len ≤ cap ∧ cap ≤ maxLen ∧ zs.length = cap ∧ (∀ i, i < zs.length → w.cell? (x.add i) = some (.int k (zs.getD i 0))) ∧ ∀ n ∈ zs, (Lit.int k n).wf = true


theorem eq_self (s : ByteArray) : (s.toList == s.toList) = true := by simp
theorem bytesRow_at2 (s : ByteArray) (cap i : Nat) (h : i < s.size) : (bytesRow s cap)[i]? = some (w8 (s.data.toList.getD i 0)) := by
  have h' : i < s.data.size := h
  have h2 : s.data.toList[i]? = some s.data[i] := by rw [Array.getElem?_toList, Array.getElem?_eq_getElem h']
  rw [List.getD_eq_getElem?_getD, h2]
  unfold bytesRow
  rw [Array.getElem?_append_left (by rw [Array.size_map]; exact h'), Array.getElem?_map, Array.getElem?_eq_getElem h']
  rfl
theorem bytesRow_ge (s : ByteArray) (cap : Nat) : s.size ≤ (bytesRow s cap).size := by
  unfold bytesRow; rw [Array.size_append, Array.size_map]; exact Nat.le_add_right _ _
theorem rowF_text {w : World} {g : Nat} {C : Array Value} {l : List UInt8} {n : Nat} (h : RowF w g 5 C) (hn : l.length = n) (hC : ∀ i, i < n → C[i]? = some (w8 (l.getD i 0))) (c : Nat) :
    (convert 35 9 (.slice (some ⟨g, 0, none⟩) n c)).run Tryd.prog w = .ok (.string ⟨l.toArray⟩) w := by
  subst hn
  refine run_convert_bytes_back (P := Tryd.prog) w 35 9 5 ⟨g, 0, none⟩ c l Tryd.underlying35 Tryd.underlying5 Tryd.underlying9 (fun j hj => ?_)
  have hadd : (⟨g, 0, none⟩ : Addr).add j = ⟨g, j, none⟩ := by unfold Addr.add; split <;> simp_all
  rw [hadd]
  refine h.at_ ((hC j hj).trans ?_)
  rw [List.getD_eq_getElem?_getD, List.getElem?_eq_getElem hj]; rfl
theorem u16_bound {a : Int} (h : (Lit.int .u16 a).wf = true) : 0 ≤ a ∧ a ≤ 65535 := by
  have h1 : IntKind.u16.min = 0 := by decide
  have h2 : IntKind.u16.max = 65535 := by decide
  simp only [Lit.wf, h1, h2, Bool.and_eq_true, decide_eq_true_eq] at h
  exact h
theorem u8_byte {a : Int} (h0 : 0 ≤ a) (h1 : a ≤ 255) : ∃ m : UInt8, a = (m.toNat : Int) := ⟨UInt8.ofNat a.toNat, by rw [UInt8.toNat_ofNat']; omega⟩
theorem same_set (l : List UInt8) (y : Nat) (hy : y < l.length) (m : UInt8) (h : l.set y (l.getD y 0 ^^^ m) = l) : m = 0 := by
  have h2 := congrArg (fun l => l.getD y 0) h
  simp only [List.getD_eq_getElem?_getD, List.getElem?_set_self hy, Option.getD_some] at h2
  have h3 : l[y]?.getD 0 ^^^ (l[y]?.getD 0 ^^^ m) = l[y]?.getD 0 ^^^ l[y]?.getD 0 := by rw [h2]
  rwa [← UInt8.xor_assoc, UInt8.xor_self, UInt8.zero_xor] at h3
theorem set_get (l : List UInt8) (y : Nat) (v : UInt8) (h : y < l.length) : (l.set y v).getD y 0 = v := by
  rw [List.getD_eq_getElem?_getD, List.getElem?_set_self h]; rfl
theorem one_conv (m : UInt8) (W : World) (g : Nat) (hg : W.heap.size = g) : (convert 35 9 (.slice (some ⟨g, 0, none⟩) 1 1)).run Tryd.prog (W.alloc (.cells #[.int .u8 (m.toNat : Int)] 5)) = .ok (.string ⟨#[m]⟩) (W.alloc (.cells #[.int .u8 (m.toNat : Int)] 5)) := by
  subst hg
  exact run_convert_bytes_back (P := Tryd.prog) _ 35 9 5 ⟨W.heap.size, 0, none⟩ 1 [m] Tryd.underlying35 Tryd.underlying5 Tryd.underlying9 (row_bytes (l := [m]) (Row.new W _ _))
theorem not_same {x y : Wr} (h : y ≠ x) : y.same x = false := by
  cases hs : y.same x with
  | false => rfl
  | true => exact absurd (same_eq y x hs) h
attribute [local go_sem] xor8
set_option maxHeartbeats 16000000 in
set_option maxRecDepth 100000 in
theorem back_main (a0 : Option Addr) (len0 cap0 : Nat) (a1 : ByteArray) (a2 a3 : Int) (m mo : UInt8) (w : World) (HT : Hid (ErrT w)) (h30 : len0 ≤ 30) (h80 : a1.size ≤ 80) (hm : m ≠ 0) (h2 : 0 ≤ a2) (h2' : a2 ≤ 65535) (h3 : 0 ≤ a3) (h3' : a3 ≤ 65535) (hlc : len0 ≤ cap0) (hcap : cap0 ≤ 9223372036854775807) (Hb : Hid (Held8 w a0 len0)) :
    Calls Tryd.prog 5 #[.slice a0 len0 cap0, .string a1, .int .u16 a2, .int .u16 a3, .int .u8 (m.toNat : Int), .int .u8 (mo.toNat : Int)] w fun e w' => e = .returned (.bool true) ∧ Below w.heap.size w w' := by
  have d1 : decide ((30 : Int) < (len0 : Int)) = false := decide_eq_false (by omega)
  have d2 : decide (30 < len0) = false := decide_eq_false (by omega)
  have d3 : decide ((80 : Int) < (a1.size : Int)) = false := decide_eq_false (by omega)
  have d4 : decide (80 < a1.size) = false := decide_eq_false (by omega)
  have hmz : m.toNat ≠ 0 := fun e => hm (UInt8.toNat_inj.1 e)
  have d5 : ((m.toNat : Int) == 0) = false := by simpa using hmz
  have d6 : (m.toNat == 0) = false := by simpa using hmz
  have Hm := Lib.hid hm
  clear hm hmz
  go_enter Tryd.func5, Tryd.ntmps5
  go_wp2_with fail
  refine (make_any a1 h80 30 len0 h30 h30 a0 cap0 w hlc hcap Hb.out).mono ?_
  rintro e w1 ⟨x, A, c, rfl, hx, hin, hen, g1⟩
  have hbn : bnd len0 ≤ 1562500 := Nat.le_trans (bnd_le (a := len0) (b := 30) h30) (by decide)
  have Hx1 := Lib.hid (hx.low (Nat.zero_le _))
  have Hin := Lib.hid hin
  have Hen : Hid (x.enc.length ≤ 1562500) := Nat.le_trans hen hbn
  have Hg1 := Lib.hid g1
  clear hx hin hen hbn g1 d1 d2 d3 d4
  have key : x.may = false ∨ x.may = true := by cases x.may <;> simp
  rcases key with hmay | hmay
  · have hm1 := may_any x (.slice A x.l.length c) (w1.alloc (.cells #[.int .i64 x.k, .int .i64 x.n, .string x.s, .slice A x.l.length c] 24)) (Hx1.out.kept (gb_alloc (gb_refl _ _) _))
    rw [hmay] at hm1
    have Hmay := Lib.hid hmay
    clear hmay
    go_wp2_with fail
    refine hm1.mono ?_
    rintro e w2 ⟨rfl, g2⟩
    have Hg2 := Lib.hid (gb_none (gb_alloc Hg1.out (.cells #[.int .i64 x.k, .int .i64 x.n, .string x.s, .slice A x.l.length c] 24)) g2)
    have Hx2 := Lib.hid (Hx1.out.kept (gb_none (gb_alloc (gb_refl w1 none) (.cells #[.int .i64 x.k, .int .i64 x.n, .string x.s, .slice A x.l.length c] 24)) g2))
    obtain ⟨⟨b0, b1, b2, b3⟩, _, hbl⟩ := box4 (row_kept (heap_alloc_new w1 (.cells #[.int .i64 x.k, .int .i64 x.n, .string x.s, .slice A x.l.length c] 24)) g2)
    clear g2 hm1
    go_wp2_with fail
    refine (put_no x _ _ Hx2.out (by exact Hmay.out)).mono ?_
    rintro e w3 ⟨rfl, g3⟩
    have Hg3 := Lib.hid (gb_none Hg2.out g3)
    clear g3 b0 b1 b2 b3
    go_wp2_with fail
    refine (awake_any w3 (HT.out.grown Hg3.out)).mono ?_
    rintro e w4 ⟨rfl, g4⟩
    go_wp2_with fail
    go_ret
    exact ⟨rfl, below_of (gb_none Hg3.out g4)⟩
  · have hm1 := may_any x (.slice A x.l.length c) (w1.alloc (.cells #[.int .i64 x.k, .int .i64 x.n, .string x.s, .slice A x.l.length c] 24)) (Hx1.out.kept (gb_alloc (gb_refl _ _) _))
    rw [hmay] at hm1
    have Hmay := Lib.hid hmay
    obtain ⟨P, HP⟩ : ∃ P, Hid (x.bytes = P) := ⟨_, rfl⟩
    have hPe : P.data.toList = x.enc := by rw [← HP.out]; exact bytes_len x hmay
    have hPs : P.size = x.enc.length := by rw [← hPe]; simp
    have HPe := Lib.hid hPe
    have h5 : 5 ≤ x.enc.length := by
      rcases enc_pos x with h | h
      · exact h
      · exfalso
        obtain ⟨k, n, s, l⟩ := x
        have := (fit_kinds (room := 6) hmay).1
        exact h (by rcases this with h | h | h <;> simp [h])
    have hP5 : 5 ≤ P.size := by omega
    have hP6 : P.size ≤ 1562500 := by have := Hen.out; omega
    have HPs := Lib.hid hPs
    have HgP : Hid (get P.data.toList = some x) := by show _ = _; rw [HPe.out]; exact get_enc x hmay Hin.out
    have HlP : Hid (P.data.toList.length ≤ 1099511627776) := by show _ ≤ _; simp; omega
    have hne := list_ne (s := P) (by omega)
    have hne2 : (!P.toList.isEmpty) = true := by rw [hne]; rfl
    obtain ⟨q, hq, hq2⟩ : ∃ q : Nat, a2 % (P.size : Int) = (q : Int) ∧ q < P.size := by
      have h1 := Int.emod_nonneg a2 (show (P.size : Int) ≠ 0 by omega)
      have h2 := Int.emod_lt_of_pos a2 (show (0 : Int) < (P.size : Int) by omega)
      exact ⟨(a2 % (P.size : Int)).toNat, by omega, by omega⟩
    obtain ⟨y, hy, hy2⟩ : ∃ y : Nat, a3 % (P.size : Int) = (y : Int) ∧ y < P.size := by
      have h1 := Int.emod_nonneg a3 (show (P.size : Int) ≠ 0 by omega)
      have h2 := Int.emod_lt_of_pos a3 (show (0 : Int) < (P.size : Int) by omega)
      exact ⟨(a3 % (P.size : Int)).toNat, by omega, by omega⟩
    have HgC : Hid (get (P.extract 0 q).data.toList = none) := by
      show _ = _
      rw [ByteArray.data_extract, Array.toList_extract, List.extract_eq_take_drop, List.drop_zero, HPe.out]
      exact get_cut _ hmay Hin.out _ (by omega)
    have HlC : Hid ((P.extract 0 q).data.toList.length ≤ 1099511627776) := by show _ ≤ _; simp; omega
    have HgM : Hid (get (P ++ ⟨#[mo]⟩).data.toList = none) := by
      show _ = _
      rw [ByteArray.data_append, Array.toList_append, HPe.out]
      exact get_longer x hmay Hin.out _ (by simp)
    have HlM : Hid ((P ++ ⟨#[mo]⟩).data.toList.length ≤ 1099511627776) := by show _ ≤ _; rw [ByteArray.data_append, Array.toList_append, List.length_append]; simp; omega
    have cv1 := one_conv mo
    clear hmay hPe hPs h5
    go_wp2_with fail
    refine hm1.mono ?_
    rintro e w2 ⟨rfl, g2⟩
    have Hg2 := Lib.hid (gb_none (gb_alloc Hg1.out (.cells #[.int .i64 x.k, .int .i64 x.n, .string x.s, .slice A x.l.length c] 24)) g2)
    have Hx2 := Lib.hid (Hx1.out.kept (gb_none (gb_alloc (gb_refl w1 none) (.cells #[.int .i64 x.k, .int .i64 x.n, .string x.s, .slice A x.l.length c] 24)) g2))
    have Hb2 := Lib.hid (row_kept (heap_alloc_new w1 (.cells #[.int .i64 x.k, .int .i64 x.n, .string x.s, .slice A x.l.length c] 24)) g2)
    obtain ⟨⟨b0, b1, b2, b3⟩, _, hbl⟩ := box4 Hb2.out
    clear g2 hm1
    go_wp2_with fail
    refine (put_all x _ _ Hx2.out (by have := Hen.out; omega)).mono ?_
    rintro e w3 ⟨rfl, g3⟩
    rw [HP.out]
    have Hg3 := Lib.hid (gb_none Hg2.out g3)
    have Hx3 := Lib.hid (Hx2.out.kept g3)
    have Hb3 := Lib.hid (row_kept Hb2.out g3)
    clear g3 b0 b1 b2 b3 hbl
    go_wp2_with fail
    refine (get_some P w3 HlP.out x HgP.out).mono ?_
    rintro e w4 ⟨A4, c4, rfl, hl4, g4⟩
    have Hg4 := Lib.hid (gb_none Hg3.out g4)
    have Hl4 := Lib.hid ((hl4.low (Nat.zero_le _)).kept (gb_alloc (gb_refl _ _) (.cells #[.int .i64 x.k, .int .i64 x.n, .string x.s, .slice A4 x.l.length c4] 24)))
    have Hx4 := Lib.hid ((Hx3.out.kept g4).kept (gb_alloc (gb_refl _ _) (.cells #[.int .i64 x.k, .int .i64 x.n, .string x.s, .slice A4 x.l.length c4] 24)))
    have Hb4 := Lib.hid (row_kept Hb3.out g4)
    obtain ⟨⟨b0, b1, b2, b3⟩, _, hbl⟩ := box4 Hb4.out
    clear g4 hl4
    go_wp2_with fail
    have hsm := same_any x x _ _ _ Hl4.out Hx4.out
    rw [same_self] at hsm
    refine hsm.mono ?_
    rintro e w5 ⟨rfl, g5⟩
    have Hg5 := Lib.hid (gb_none (gb_alloc Hg4.out _) g5)
    have Hx5 := Lib.hid (Hx4.out.kept g5)
    have Hb5 := Lib.hid (row_kept Hb4.out (gb_none (gb_alloc (gb_refl w4 none) _) g5))
    clear g5 hsm b0 b1 b2 b3 hbl
    go_wp2_with fail
    refine (get_none (P.extract 0 q) w5 HlC.out HgC.out (HT.out.grown Hg5.out)).mono ?_
    rintro e w6 ⟨rfl, g6⟩
    have Hg6 := Lib.hid (gb_none Hg5.out g6)
    have Hx6 := Lib.hid (Hx5.out.kept g6)
    have Hb6 := Lib.hid (row_kept Hb5.out g6)
    clear g6
    have hcat : ¬ 9223372036854775807 < P.size + (⟨#[mo]⟩ : ByteArray).size := by
      have : (⟨#[mo]⟩ : ByteArray).size = 1 := rfl
      omega
    go_wp2_with fail
    refine (get_none _ _ (by exact HlM.out) (by exact HgM.out) (HT.out.grown (gb_alloc (gb_alloc Hg6.out _) _))).mono ?_
    rintro e w7 ⟨rfl, g7⟩
    have Hg7 := Lib.hid (gb_none (gb_alloc (gb_alloc Hg6.out _) _) g7)
    have Hx7 := Lib.hid (Hx6.out.kept (gb_none (gb_alloc (gb_alloc (gb_refl w6 none) _) _) g7))
    have Hb7 := Lib.hid (row_kept Hb6.out (gb_none (gb_alloc (gb_alloc (gb_refl w6 none) _) _) g7))
    clear g7 cv1 hcat
    -- the bytes, one of them turned
    have hcv := run_bytes_of_string (P := Tryd.prog) (w7.alloc (.cells #[.int .i64 0, .int .i64 0, .string ⟨#[]⟩, .slice none 0 0] 24)) 9 35 5 P Tryd.underlying9 Tryd.underlying35 Tryd.underlying5
    have r0 : RowF ((w7.alloc (.cells #[.int .i64 0, .int .i64 0, .string ⟨#[]⟩, .slice none 0 0] 24)).drew.alloc (.cells (bytesRow P (grownCap (w7.alloc (.cells #[.int .i64 0, .int .i64 0, .string ⟨#[]⟩, .slice none 0 0] 24)) P.size 0 5)) 5 ((bytesRow P (grownCap (w7.alloc (.cells #[.int .i64 0, .int .i64 0, .string ⟨#[]⟩, .slice none 0 0] 24)) P.size 0 5)).size, (bytesRow P (grownCap (w7.alloc (.cells #[.int .i64 0, .int .i64 0, .string ⟨#[]⟩, .slice none 0 0] 24)) P.size 0 5)).size + 1))) (w7.alloc (.cells #[.int .i64 0, .int .i64 0, .string ⟨#[]⟩, .slice none 0 0] 24)).heap.size 5 (bytesRow P (grownCap (w7.alloc (.cells #[.int .i64 0, .int .i64 0, .string ⟨#[]⟩, .slice none 0 0] 24)) P.size 0 5)) := ⟨_, Nat.le_refl _, heap_alloc_new (w7.alloc (.cells #[.int .i64 0, .int .i64 0, .string ⟨#[]⟩, .slice none 0 0] 24)).drew _⟩
    have g0 : w7.grownBy ((w7.alloc (.cells #[.int .i64 0, .int .i64 0, .string ⟨#[]⟩, .slice none 0 0] 24)).drew.alloc (.cells (bytesRow P (grownCap (w7.alloc (.cells #[.int .i64 0, .int .i64 0, .string ⟨#[]⟩, .slice none 0 0] 24)) P.size 0 5)) 5 ((bytesRow P (grownCap (w7.alloc (.cells #[.int .i64 0, .int .i64 0, .string ⟨#[]⟩, .slice none 0 0] 24)) P.size 0 5)).size, (bytesRow P (grownCap (w7.alloc (.cells #[.int .i64 0, .int .i64 0, .string ⟨#[]⟩, .slice none 0 0] 24)) P.size 0 5)).size + 1))) none := gb_alloc (gb_drew (gb_alloc (gb_refl _ _) _)) _
    have hgB : w7.heap.size < (w7.alloc (.cells #[.int .i64 0, .int .i64 0, .string ⟨#[]⟩, .slice none 0 0] 24)).heap.size := by simp
    have hC : ∀ i, i < P.size → (bytesRow P (grownCap (w7.alloc (.cells #[.int .i64 0, .int .i64 0, .string ⟨#[]⟩, .slice none 0 0] 24)) P.size 0 5))[i]? = some (w8 (P.data.toList.getD i 0)) := fun i hi => bytesRow_at2 P _ i hi
    have hCs := bytesRow_ge P (grownCap (w7.alloc (.cells #[.int .i64 0, .int .i64 0, .string ⟨#[]⟩, .slice none 0 0] 24)) P.size 0 5)
    generalize hW : (w7.alloc (.cells #[.int .i64 0, .int .i64 0, .string ⟨#[]⟩, .slice none 0 0] 24)).drew.alloc (.cells (bytesRow P (grownCap (w7.alloc (.cells #[.int .i64 0, .int .i64 0, .string ⟨#[]⟩, .slice none 0 0] 24)) P.size 0 5)) 5 ((bytesRow P (grownCap (w7.alloc (.cells #[.int .i64 0, .int .i64 0, .string ⟨#[]⟩, .slice none 0 0] 24)) P.size 0 5)).size, (bytesRow P (grownCap (w7.alloc (.cells #[.int .i64 0, .int .i64 0, .string ⟨#[]⟩, .slice none 0 0] 24)) P.size 0 5)).size + 1)) = W at *
    generalize bytesRow P (grownCap (w7.alloc (.cells #[.int .i64 0, .int .i64 0, .string ⟨#[]⟩, .slice none 0 0] 24)) P.size 0 5) = C at *
    generalize grownCap (w7.alloc (.cells #[.int .i64 0, .int .i64 0, .string ⟨#[]⟩, .slice none 0 0] 24)) P.size 0 5 = cap at *
    have hsz7 : (w7.alloc (.cells #[.int .i64 0, .int .i64 0, .string ⟨#[]⟩, .slice none 0 0] 24)).heap.size = w7.heap.size + 1 := by simp
    rw [hsz7] at r0 hcv
    clear hW
    have HC := Lib.hid hC
    have Hr0 := Lib.hid r0
    have Hg0 := Lib.hid g0
    have hyi : (y : Int) < (P.size : Int) := by omega
    obtain ⟨x0, Hx0⟩ : ∃ x0, Hid (x0 = P.data.toList.getD y 0) := ⟨_, rfl⟩
    have cx : W.cell? ⟨(w7.heap.size + 1), y, none⟩ = some (.int .u8 (x0.toNat : Int)) := by rw [Hx0.out]; exact Hr0.out.at_ (HC.out y hy2)
    have hfz : W.frozen? ⟨(w7.heap.size + 1), y, none⟩ = false := Hr0.out.free (by omega)
    obtain ⟨T, HTT⟩ : ∃ T : ByteArray, Hid (T = ⟨(P.data.toList.set y (P.data.toList.getD y 0 ^^^ m)).toArray⟩) := ⟨_, rfl⟩
    have hsame : w8 (P.data.toList.getD y 0 ^^^ m) = .int .u8 ((x0.toNat ^^^ m.toNat : Nat) : Int) := by rw [Hx0.out, ← UInt8.toNat_xor]; rfl
    have g0' := gb_set1 W (w7.heap.size + 1) y (.int .u8 ((x0.toNat ^^^ m.toNat : Nat) : Int))
    have r1 := Hr0.out.set_ y (.int .u8 ((x0.toNat ^^^ m.toNat : Nat) : Int))
    have hstr : (convert 35 9 (.slice (some ⟨(w7.heap.size + 1), 0, none⟩) P.size cap)).run Tryd.prog (W.setCell ⟨(w7.heap.size + 1), y, none⟩ (.int .u8 ((x0.toNat ^^^ m.toNat : Nat) : Int))) = .ok (.string T) (W.setCell ⟨(w7.heap.size + 1), y, none⟩ (.int .u8 ((x0.toNat ^^^ m.toNat : Nat) : Int))) := by
      rw [HTT.out]
      refine rowF_text r1 (by rw [List.length_set]; simp) (fun i hi => ?_) cap
      rw [Array.getElem?_setIfInBounds]
      by_cases hiy : y = i
      · subst hiy
        rw [if_pos rfl, if_pos (by omega), ← hsame, set_get _ _ _ (by simpa using hi)]
      · rw [if_neg hiy, HC.out i hi, List.getD_eq_getElem?_getD, List.getD_eq_getElem?_getD, List.getElem?_set_ne hiy]
    have HTne : Hid (T.data.toList ≠ x.enc) := fun e => by
      have hyl : y < P.data.toList.length := by simpa using hy2
      rw [HTT.out, ← HPe.out] at e
      exact Hm.out (same_set _ y hyl m (by simpa using e))
    have HlT : Hid (T.data.toList.length ≤ 1099511627776) := by show _ ≤ _; rw [HTT.out]; simp; omega
    have Hg8 : Hid (w.grownBy (W.setCell ⟨(w7.heap.size + 1), y, none⟩ (.int .u8 ((x0.toNat ^^^ m.toNat : Nat) : Int))) none) := gb_none Hg7.out (gb_new Hg0.out g0' (by omega))
    have Hw8 : Hid (w7.grownBy (W.setCell ⟨(w7.heap.size + 1), y, none⟩ (.int .u8 ((x0.toNat ^^^ m.toNat : Nat) : Int))) none) := gb_new Hg0.out g0' (by omega)
    have Hx8 := Lib.hid (Hx7.out.kept Hw8.out)
    have Hb8 := Lib.hid (row_kept Hb7.out Hw8.out)
    clear hC r0 g0 g0' r1 hsame hgB hsz7
    go_wp2_with fail
    have keyT : get T.data.toList = none ∨ ∃ yw, get T.data.toList = some yw ∧ yw ≠ x := by
      cases hgt : get T.data.toList with
      | none => exact .inl rfl
      | some yw => exact .inr ⟨yw, rfl, fun e => by rw [e] at hgt; exact HTne.out (get_back hgt).1⟩
    rcases keyT with hT0 | ⟨yw, hT1, hyx⟩
    · have HT0 := Lib.hid hT0
      clear hT0
      refine (get_none T _ HlT.out HT0.out (HT.out.grown Hg8.out)).mono ?_
      rintro e w9 ⟨rfl, g9⟩
      have Hg9 := Lib.hid (gb_none Hg8.out g9)
      clear g9 hstr hcv cx hfz
      go_wp2_with fail
      refine (awake_any _ (HT.out.grown (gb_alloc Hg9.out _))).mono ?_
      rintro e w10 ⟨rfl, g10⟩
      go_wp2_with fail
      go_ret
      exact ⟨rfl, below_of (gb_none (gb_alloc Hg9.out _) g10)⟩
    · have HT1 := Lib.hid hT1
      have Hns := Lib.hid (not_same hyx)
      clear hT1 hyx
      refine (get_some T _ HlT.out yw HT1.out).mono ?_
      rintro e w9 ⟨A9, c9, rfl, hl9, g9⟩
      have Hg9 := Lib.hid (gb_none Hg8.out g9)
      have Hb9 := Lib.hid (row_kept Hb8.out g9)
      obtain ⟨⟨b0, b1, b2, b3⟩, _, hbl⟩ := box4 Hb9.out
      have Hl9 := Lib.hid ((hl9.low (Nat.zero_le _)).kept (gb_alloc (gb_refl _ _) (.cells #[.int .i64 yw.k, .int .i64 yw.n, .string yw.s, .slice A9 yw.l.length c9] 24)))
      have Hx9 := Lib.hid ((Hx8.out.kept g9).kept (gb_alloc (gb_refl _ _) (.cells #[.int .i64 yw.k, .int .i64 yw.n, .string yw.s, .slice A9 yw.l.length c9] 24)))
      clear g9 hl9 hstr hcv cx hfz
      go_wp2_with fail
      have hsm := same_any yw x _ _ _ Hl9.out Hx9.out
      rw [Hns.out] at hsm
      refine hsm.mono ?_
      rintro e w10 ⟨rfl, g10⟩
      have Hg10 := Lib.hid (gb_none (gb_alloc Hg9.out _) g10)
      clear g10 hsm b0 b1 b2 b3 hbl
      go_wp2_with fail
      refine (awake_any w10 (HT.out.grown Hg10.out)).mono ?_
      rintro e w11 ⟨rfl, g11⟩
      go_wp2_with fail
      go_ret
      exact ⟨rfl, below_of (gb_none Hg10.out g11)⟩

set_option maxHeartbeats 40000000 in
set_option maxRecDepth 100000 in
theorem walk (a0 : Option Addr) (len0 cap0 : Nat) (z0 : List Int) (a1 : ByteArray) (a2 : Int) (a3 : Int) (a4 : Int) (a5 : Int) (w : World) (w0 : IsRow .u8 w a0 len0 cap0 z0) (w1 : a1.size ≤ maxLen) (w2 : (Lit.int .u16 a2).wf = true) (w3 : (Lit.int .u16 a3).wf = true) (w4 : (Lit.int .u8 a4).wf = true) (w5 : (Lit.int .u8 a5).wf = true) (hT : ErrT w) :
    Calls Tryd.prog 5 #[.slice a0 len0 cap0, .string a1, .int .u16 a2, .int .u16 a3, .int .u8 a4, .int .u8 a5] w fun e w' => e = .returned (.bool true) ∧ Below w.heap.size w w' := by
  have Hb : Hid (Held8 w a0 len0) := held8_of w0
  have hlc : len0 ≤ cap0 ∧ cap0 ≤ 9223372036854775807 := by
    rcases w0 with ⟨_, rfl, rfl, _⟩ | ⟨x, _, hl, hc, _⟩
    · exact ⟨by decide, by decide⟩
    · unfold maxLen at hc; omega
  obtain ⟨b2, b2'⟩ := u16_bound w2
  obtain ⟨b3, b3'⟩ := u16_bound w3
  obtain ⟨b4, b4'⟩ := u8_of w4
  obtain ⟨b5, b5'⟩ := u8_of w5
  obtain ⟨m, rfl⟩ := u8_byte b4 b4'
  obtain ⟨mo, rfl⟩ := u8_byte b5 b5'
  have HT := Lib.hid hT
  clear hT w0 w1 w2 w3 w4 w5 b4 b4' b5 b5'
  by_cases hA : 30 < len0
  · have d1 : decide ((30 : Int) < (len0 : Int)) = true := decide_eq_true (by omega)
    have d2 : decide (30 < len0) = true := decide_eq_true hA
    go_enter Tryd.func5, Tryd.ntmps5
    go_wp2_with fail
    refine (awake_any _ HT.out).mono ?_
    rintro e w1 ⟨rfl, g1⟩
    go_wp2_with fail
    go_ret
    exact ⟨rfl, below_of g1⟩
  by_cases hB : 80 < a1.size
  · have d1 : decide ((30 : Int) < (len0 : Int)) = false := decide_eq_false (by omega)
    have d2 : decide (30 < len0) = false := decide_eq_false hA
    have d3 : decide ((80 : Int) < (a1.size : Int)) = true := decide_eq_true (by omega)
    have d4 : decide (80 < a1.size) = true := decide_eq_true hB
    go_enter Tryd.func5, Tryd.ntmps5
    go_wp2_with fail
    refine (awake_any _ HT.out).mono ?_
    rintro e w1 ⟨rfl, g1⟩
    go_wp2_with fail
    go_ret
    exact ⟨rfl, below_of g1⟩
  by_cases hm : m = 0
  · subst hm
    have d1 : decide ((30 : Int) < (len0 : Int)) = false := decide_eq_false (by omega)
    have d2 : decide (30 < len0) = false := decide_eq_false hA
    have d3 : decide ((80 : Int) < (a1.size : Int)) = false := decide_eq_false (by omega)
    have d4 : decide (80 < a1.size) = false := decide_eq_false hB
    have d5 : (((0 : UInt8).toNat : Int) == 0) = true := rfl
    have d6 : ((0 : UInt8).toNat == 0) = true := rfl
    go_enter Tryd.func5, Tryd.ntmps5
    go_wp2_with fail
    refine (awake_any _ HT.out).mono ?_
    rintro e w1 ⟨rfl, g1⟩
    go_wp2_with fail
    go_ret
    exact ⟨rfl, below_of g1⟩
  exact back_main a0 len0 cap0 a1 a2 a3 m mo w HT (by omega) (by omega) hm b2 b2' b3 b3' hlc.1 hlc.2 Hb

theorem et : Tryd.prog.globalNamed "errors.errorType" = some 0 := by kernel_rfl
theorem rt : (Tryd.prog.cutTypes.find? (·.1 == "internal/reflectlite.rtype")).map (·.2) = some 108 := by kernel_rfl
theorem one_error : ((List.range 148).filter fun t => Tryd.prog.rowNamed t [101, 114, 114, 111, 114]) = [59] := by kernel_rfl
theorem how_many : Tryd.prog.types.size = 148 := by kernel_rfl
theorem handle : typeHandle Tryd.prog 59 = .pointer (some ⟨2, 59, none⟩) := by kernel_rfl
theorem errT {W : World} (h : laidMetH Tryd.prog Rows.wireBackRow.laid W) : ErrT W := by
  obtain ⟨n, u, t, hn, hu, ht, hr, hc⟩ := (laidMetH_iff.1 h).2 _ (List.mem_singleton.2 rfl)
  obtain rfl := Option.some.inj hn
  obtain rfl := Option.some.inj (rt.symm.trans hu)
  have hin : t ∈ [59] := by
    rw [← one_error]
    exact List.mem_filter.2 ⟨List.mem_range.2 (how_many ▸ ht), hr⟩
  obtain rfl := List.mem_singleton.1 hin
  rw [handle] at hc
  have := World.var?_cell et hc 0
  unfold ErrT
  simpa using this
set_option maxRecDepth 100000 in
theorem contract (H : Type) (enc : TypeId × Value → H) (W : World) (base : Nat) (args : Array Value) (ds gs : List (DataW H)) (before : List MemPlace)
    (hval0 : ∀ (j : Nat) t v, Tryd.f5.params[j]? = some t → args[j]? = some v → Value.okWide Tryd.prog W .any base t v)
    (hW : DataW.Whole enc Tryd.prog Tryd.f5.params.toList Rows.wireBackSpec.vars false W args.toList ds gs before) (hL : laidMetH Tryd.prog Rows.wireBackRow.laid W) :
    Calls Tryd.prog 5 args W fun e W' => ∃ v, e = .returned v ∧ Rows.wireBackSpec.post enc Tryd.prog Tryd.f5 false true false false W args v W' := by
  have hval : ∀ (j : Nat) t v, Tryd.f5.params[j]? = some t → args[j]? = some v → Value.okWide Tryd.prog W .any base t v := hval0
  have hW' := hW
  obtain ⟨p, q, hA0, hV, rfl, hfz, hnd⟩ := hW
  have hA : DataW.TrodAll enc Tryd.prog W 0 (fun _ => true) true Tryd.f5.params.toList args.toList ds p := hA0
  rw [Tryd.params5] at hA hval
  obtain ⟨v0, vs0, d0, ds0, p0, q0, hargs, rfl, rfl, h0, r0⟩ := trodAll_cons hA
  obtain ⟨v1, vs1, d1, ds1, p1, q1, rfl, rfl, rfl, h1, r1⟩ := trodAll_cons r0
  obtain ⟨v2, vs2, d2, ds2, p2, q2, rfl, rfl, rfl, h2, r2⟩ := trodAll_cons r1
  obtain ⟨v3, vs3, d3, ds3, p3, q3, rfl, rfl, rfl, h3, r3⟩ := trodAll_cons r2
  obtain ⟨v4, vs4, d4, ds4, p4, q4, rfl, rfl, rfl, h4, r4⟩ := trodAll_cons r3
  obtain ⟨v5, vs5, d5, ds5, p5, q5, rfl, rfl, rfl, h5, r5⟩ := trodAll_cons r4
  obtain ⟨rfl, rfl, rfl⟩ := trodAll_nil r5
  obtain rfl : args = #[v0, v1, v2, v3, v4, v5] := by cases args; simp_all
  obtain ⟨rfl, rfl⟩ := trodVars_none hV
  obtain ⟨a0, len0, cap0, rfl⟩ := okWide_slice Tryd.underlying35 (hval 0 35 v0 rfl rfl)
  have k0 := h0
  have lt0 : ∀ x ∈ p0, x.block < W.heap.size := by obtain ⟨m, hm⟩ := k0; exact DataW.trod_lt m _ _ _ hm
  obtain ⟨z0, w0⟩ : ∃ zs, IsRow .u8 W a0 len0 cap0 zs := by
    obtain ⟨fuel, hf⟩ := h0
    rcases open_ints Tryd.underlying35 Tryd.underlying5 (by kernel_rfl) hf with ⟨hcs, _⟩ | ⟨x, l, c, zs, hcs, _, hl, hm, hz, _, hcell, hwz⟩
    · simp [Value.cells] at hcs
      obtain ⟨rfl, rfl, rfl⟩ := hcs
      exact ⟨[], .inl ⟨rfl, rfl, rfl, rfl⟩⟩
    · simp [Value.cells] at hcs
      obtain ⟨rfl, rfl, rfl⟩ := hcs
      exact ⟨zs, .inr ⟨_, rfl, hl, hm, by simpa using hz, hcell, hwz⟩⟩
  obtain ⟨a1, rfl, rfl, rfl, w1⟩ := open_string Tryd.underlying9 (hval 1 9 v1 rfl rfl) h1
  obtain ⟨a2, rfl, rfl, rfl, w2⟩ := open_int Tryd.underlying36 (hval 2 36 v2 rfl rfl) h2
  obtain ⟨a3, rfl, rfl, rfl, w3⟩ := open_int Tryd.underlying36 (hval 3 36 v3 rfl rfl) h3
  obtain ⟨a4, rfl, rfl, rfl, w4⟩ := open_int Tryd.underlying5 (hval 4 5 v4 rfl rfl) h4
  obtain ⟨a5, rfl, rfl, rfl, w5⟩ := open_int Tryd.underlying5 (hval 5 5 v5 rfl rfl) h5
  clear hA0 hval0
  refine (walk a0 len0 cap0 z0 a1 a2 a3 a4 a5 W w0 w1 w2 w3 w4 w5 (errT hL)).mono fun e W' ⟨he, bel⟩ => ?_
  subst he
  exact ⟨_, rfl, _, _, _, [], _, [], hW', trodAll_mk1 (shut_bool Tryd.underlying4 _), (trodAll_cons_mk (Below.trod laidOut (by kernel_rfl) (of_decide_eq_true (by kernel_rfl)) k0 bel lt0) (trodAll_cons_mk (shut_string Tryd.underlying9 w1) (trodAll_cons_mk (shut_int Tryd.underlying36 w2) (trodAll_cons_mk (shut_int Tryd.underlying36 w3) (trodAll_cons_mk (shut_int Tryd.underlying5 w4) (trodAll_cons_mk (shut_int Tryd.underlying5 w5) trodAll_mk0)))))), rfl, bel.frame _, fun h => by cases h⟩

def lay (cs : Array Value) : Obj → Obj
  | .cells _ t frozen => .cells cs t frozen
  | o => o
noncomputable def laidWorld (os : Os) : World :=
  { World.holding Tryd.prog os ⟨#[], #[], []⟩ with heap := (World.holding Tryd.prog os ⟨#[], #[], []⟩).heap.modify 0 (lay #[.iface 108 (.agg #[.pointer (some ⟨2, 59, none⟩)])]) }
theorem laid_met (os : Os) : laidMetH Tryd.prog Rows.wireBackRow.laid ((laidWorld os).forCall (fun _ _ => 0) ⟨#[], #[.slice none 0 0, .string ByteArray.empty, .int .u16 0, .int .u16 0, .int .u8 0, .int .u8 0], []⟩).memory :=
  laidMetH_of_parts (laidMet_nil _ _) (by kernel_rfl)
theorem reads (os : Os) {H : Type} (enc : TypeId × Value → H) : ∃ places, DataW.whole enc Tryd.prog ((laidWorld os).forCall (fun _ _ => 0) ⟨#[], #[.slice none 0 0, .string ByteArray.empty, .int .u16 0, .int .u16 0, .int .u8 0, .int .u8 0], []⟩).memory Tryd.f5.params.toList Rows.wireBackSpec.vars false (show Array Value from #[.slice none 0 0, .string ByteArray.empty, .int .u16 0, .int .u16 0, .int .u8 0, .int .u8 0]).toList 8 = some ([.nil, .lit (.string []), .lit (.int .u16 0), .lit (.int .u16 0), .lit (.int .u8 0), .lit (.int .u8 0)], [], places) :=
  ⟨[], by kernel_rfl⟩

set_option maxRecDepth 100000 in
theorem lifted (os : Os) (started : os.Started) (H : Type) (enc : TypeId × Value → H) (F : Stop.Interp) :
    ReturnsInHanded {} Tryd.checked os 5 .any ((OpenSpec.ofChange Rows.wireBackSpec).preRow enc Tryd.prog Tryd.f5 Rows.wireBackRow.domain false Rows.wireBackRow.laid) (((OpenSpec.ofChange Rows.wireBackSpec).at F).post enc Tryd.prog Tryd.f5 false true false false) := by
  obtain ⟨places, hx⟩ := reads os enc
  refine returnsInHanded_of_row (C := Tryd.checked) (s := OpenSpec.ofChange Rows.wireBackSpec) own started (by kernel_rfl) Tryd.func5
    (witness_row_at (enc := enc) (C := Tryd.checked) false (laidWorld os) #[.slice none 0 0, .string ByteArray.empty, .int .u16 0, .int .u16 0, .int .u8 0, .int .u8 0] rfl (by kernel_rfl) (by kernel_rfl) (by kernel_rfl)
      (OpenSpec.preRow_of_cond 8 hx (by kernel_rfl) (fun k hk => by cases hk) (by kernel_rfl) (laid_met os))) ?_
  intro W base args ds gs before hval hW _ _ _ hL _ _
  exact contract H enc W base args ds gs before hval hW hL

theorem said : Rows.WireBackSaid :=
  OpenClaim.holds_of_cond 5 Tryd.f5 rfl rfl rfl rfl rfl rfl rfl ⟨rfl, rfl, rfl, rfl, rfl⟩ rfl rfl rfl rfl rfl (by kernel_rfl) Tryd.func5 (by kernel_rfl)
    (of_decide_eq_true (by kernel_rfl)) (by unfold Func.isWrapper; first | (rw [if_pos (by decide +kernel)]; kernel_rfl) | (rw [if_neg (by decide +kernel)]; exact ⟨rfl, rfl⟩))
    (fun os started H enc _ F => by rw [OpenClaim.pre_eq_preRow]; exact lifted os started H enc F)

theorem plain (f : FuncId) (fn : Func) (hf : Tryd.pinned.checked.prog.funcNamed "deaddrop/deaddroplaw4.WireBack" = some f) (hfn : Tryd.pinned.checked.prog.funcs[f]? = some fn) :
    true = Tryd.pinned.checked.prog.looks [] ∧ ∀ (j : Nat) t, fn.params[j]? = some t → Tryd.pinned.checked.prog.wantsStandIn t = false := by
  obtain rfl : f = 5 := Option.some.inj ((show Tryd.prog.funcNamed "deaddrop/deaddroplaw4.WireBack" = some 5 by kernel_rfl).symm.trans hf) |>.symm
  obtain rfl : fn = Tryd.f5 := (Option.some.inj (Tryd.func5.symm.trans hfn)).symm
  refine ⟨by kernel_rfl, fun j t ht => ?_⟩
  have hall : (Tryd.f5.params.toList.all fun u => !Tryd.prog.wantsStandIn u) = true := by kernel_rfl
  have hm : t ∈ Tryd.f5.params.toList := by simpa using Array.mem_of_getElem? ht
  exact (show Tryd.prog.wantsStandIn t = false by simpa using List.all_eq_true.1 hall t hm)

theorem card : Rows.WireBackCardSaid :=
  Claim7.holds_tied_plain_at .later [] _ _ _ _ said (fun _ h => by cases h) (by kernel_rfl) (fun _ h => by cases h) wireBack_row_tie rfl ⟨rfl, rfl⟩ (by kernel_rfl) rfl plain (by kernel_rfl)
#print axioms card
end Go.Proofs.YtbammjhafgbfkaaDoor.wireBack
