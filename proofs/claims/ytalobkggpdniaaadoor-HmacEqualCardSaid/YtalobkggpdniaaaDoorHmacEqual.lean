/-
  Proved: whatever values of its parameters' types it is called with, deaddroplaw3.HmacEqual returns true, and each argument reads behind the call as it read before; the two tables of package sha being what the program's own text lays (the card ties them).
  Conditions: none but those of the card itself.
-/
import Derived.Test.YtalobkggpdniaaaDoorCards
import Derived.Test.YtalobkggpdniaaaDoorTie
import Derived.WalkKit
import Derived.ProofKit
import Derived.OpenShut
import Derived.ShutString
import Derived.Below
import Derived.Deep.DeepHandedRow
import Derived.Lib.LaidTab
import Derived.LaidSub
import Derived.Test.YtalobkggpdniaaaDoorHEqual
import Derived.Test.YtalobkggpdniaaaDoorRowF
import Derived.IntWalk
import Derived.Outline
namespace Go.Proofs.YtalobkggpdniaaaDoor.hmacEqual
open Go.ChangeShapes Go.WideShapes Go.ChangeAt Go.RowKit
open Go.ChangeMaps (open_string shut_string)
open Go.Proofs.YtalobkggpdniaaaDoor.Wd Go.Proofs.YtalobkggpdniaaaDoor.Mm
set_option linter.unusedVariables false

theorem own : ownKnob Tryd.prog.godebug = none := by kernel_rfl


theorem eqB_more (a b : ByteArray) (hb : b.size = 1) : eqB a (a ++ b) = false := eqB_no fun h => by
  have := congrArg ByteArray.size h
  rw [ByteArray.size_append, hb] at this
  omega
theorem eq_lists (a b : ByteArray) : (a.toList == b.toList) = eqB a b := by
  unfold eqB
  rw [ByteArray.toList_eq, ByteArray.toList_eq]
  by_cases h : a = b
  · subst h; simp
  · rw [decide_eq_false h, beq_eq_false_iff_ne]
    exact fun h2 => h (ext_bytes a b h2)
theorem eq_lists2 (a b : ByteArray) : decide (a.toList = b.toList) = eqB a b := by
  rw [← eq_lists]
  by_cases h : a.toList = b.toList
  · rw [decide_eq_true h]; exact (beq_iff_eq.2 h).symm
  · rw [decide_eq_false h]; exact (beq_eq_false_iff_ne.2 h).symm
theorem bytesRow_at2 (s : ByteArray) (cap i : Nat) (h : i < s.size) : (bytesRow s cap)[i]? = some (w8 (s.data.toList.getD i 0)) := by
  rw [bytesRow_at s cap i h]
  have h' : i < s.data.toList.length := by rw [len_data]; exact h
  rw [List.getD_eq_getElem?_getD, List.getElem?_eq_getElem h']
  rfl
theorem bytesRow_ge (s : ByteArray) (cap : Nat) : s.size ≤ (bytesRow s cap).size := by
  unfold bytesRow; rw [Array.size_append, Array.size_map]; exact Nat.le_add_right _ _
theorem rowF_text {w : World} {g : Nat} {C : Array Value} {l : List UInt8} {n : Nat} (h : RowF w g 5 C) (hn : l.length = n) (hC : ∀ i, i < n → C[i]? = some (w8 (l.getD i 0))) (c : Nat) :
    (convert 26 9 (.slice (some ⟨g, 0, none⟩) n c)).run Tryd.prog w = .ok (.string ⟨l.toArray⟩) w := by
  subst hn
  refine run_convert_bytes_back (P := Tryd.prog) w 26 9 5 ⟨g, 0, none⟩ c l Tryd.underlying26 Tryd.underlying5 Tryd.underlying9 (fun j hj => ?_)
  have hadd : (⟨g, 0, none⟩ : Addr).add j = ⟨g, j, none⟩ := by unfold Addr.add; split <;> simp_all
  rw [hadd]
  refine h.at_ ((hC j hj).trans ?_)
  rw [List.getD_eq_getElem?_getD, List.getElem?_eq_getElem hj]; rfl
theorem u16_bound {a : Int} (h : (Lit.int .u16 a).wf = true) : 0 ≤ a ∧ a ≤ 65535 := by
  have h1 : IntKind.u16.min = 0 := by decide
  have h2 : IntKind.u16.max = 65535 := by decide
  simp only [Lit.wf, h1, h2, Bool.and_eq_true, decide_eq_true_eq] at h
  exact h
theorem u8_of {a : Int} (h0 : 0 ≤ a) (h1 : a ≤ 255) : ∃ m : UInt8, a = (m.toNat : Int) := ⟨UInt8.ofNat a.toNat, by rw [UInt8.toNat_ofNat']; omega⟩
theorem same_set (l : List UInt8) (y : Nat) (hy : y < l.length) (m : UInt8) : l.set y (l.getD y 0 ^^^ m) = l ↔ m = 0 := by
  constructor
  · intro h
    have h2 := congrArg (fun l => l.getD y 0) h
    simp only [List.getD_eq_getElem?_getD, List.getElem?_set_self hy, Option.getD_some] at h2
    have h3 : l[y]?.getD 0 ^^^ (l[y]?.getD 0 ^^^ m) = l[y]?.getD 0 ^^^ l[y]?.getD 0 := by rw [h2]
    rwa [← UInt8.xor_assoc, UInt8.xor_self, UInt8.zero_xor] at h3
  · rintro rfl
    rw [UInt8.xor_zero]
    apply List.ext_getElem?
    intro i
    rw [List.getElem?_set]
    split
    · rename_i h; subst h; simp [hy]
    · rfl
attribute [local go_sem] xor8

set_option maxHeartbeats 40000000 in
set_option maxRecDepth 100000 in
theorem walk (a0 : ByteArray) (a1 : ByteArray) (a2 : Int) (a3 : Int) (w0 : a0.size ≤ maxLen) (w1 : a1.size ≤ maxLen) (w2 : (Lit.int .u16 a2).wf = true) (w3 : (Lit.int .u8 a3).wf = true) (w : World) (hT : Tabs w) :
    Calls Tryd.prog 12 #[.string a0, .string a1, .int .u16 a2, .int .u8 a3] w fun e w' => e = .returned (.bool true) ∧ Below w.heap.size w w' := by
  obtain ⟨b2, b2'⟩ := u16_bound w2
  obtain ⟨b3, b3'⟩ := u8_bound w3
  obtain ⟨m, rfl⟩ := u8_of b3 b3'
  clear w0 w1 w2 w3 b3 b3'
  by_cases h1 : 200 < a0.size
  · have t1 : decide ((200 : Int) < (a0.size : Int)) = true := decide_eq_true (by omega)
    clear h1
    go_enter Tryd.func12, Tryd.ntmps12
    go_wp2_with fail
    refine (awake3_any _ hT).mono ?_
    rintro e x1 ⟨rfl, g1⟩
    go_wp2_with fail
    go_ret
    exact ⟨rfl, below_of g1⟩
  · have t1 : decide ((200 : Int) < (a0.size : Int)) = false := decide_eq_false (by omega)
    by_cases h2 : 200 < a1.size
    · have t2 : decide ((200 : Int) < (a1.size : Int)) = true := decide_eq_true (by omega)
      clear h1 h2
      go_enter Tryd.func12, Tryd.ntmps12
      go_wp2_with fail
      refine (awake3_any _ hT).mono ?_
      rintro e x1 ⟨rfl, g1⟩
      go_wp2_with fail
      go_ret
      exact ⟨rfl, below_of g1⟩
    · have t2 : decide ((200 : Int) < (a1.size : Int)) = false := decide_eq_false (by omega)
      obtain ⟨p, hp⟩ : ∃ p, eqB a0 a1 = p := ⟨_, rfl⟩
      have q1 := (eq_lists a0 a1).trans hp
      have q2 := (eq_lists2 a0 a1).trans hp
      have Hp := Lib.hid hp
      clear hp
      have hcv := run_bytes_of_string (P := Tryd.prog) w 9 26 5 a0 Tryd.underlying9 Tryd.underlying26 Tryd.underlying5
      have r0 : RowF (w.drew.alloc (.cells (bytesRow a0 (grownCap w a0.size 0 5)) 5 ((bytesRow a0 (grownCap w a0.size 0 5)).size, (bytesRow a0 (grownCap w a0.size 0 5)).size + 1))) w.heap.size 5 (bytesRow a0 (grownCap w a0.size 0 5)) := ⟨_, Nat.le_refl _, heap_alloc_new w.drew _⟩
      have g0 : w.grownBy (w.drew.alloc (.cells (bytesRow a0 (grownCap w a0.size 0 5)) 5 ((bytesRow a0 (grownCap w a0.size 0 5)).size, (bytesRow a0 (grownCap w a0.size 0 5)).size + 1))) none := gb_alloc (gb_drew (gb_refl _ _)) _
      have hC : ∀ i, i < a0.size → (bytesRow a0 (grownCap w a0.size 0 5))[i]? = some (w8 (a0.data.toList.getD i 0)) := fun i hi => bytesRow_at2 a0 _ i hi
      have hCs := bytesRow_ge a0 (grownCap w a0.size 0 5)
      generalize hW : w.drew.alloc (.cells (bytesRow a0 (grownCap w a0.size 0 5)) 5 ((bytesRow a0 (grownCap w a0.size 0 5)).size, (bytesRow a0 (grownCap w a0.size 0 5)).size + 1)) = W at *
      generalize bytesRow a0 (grownCap w a0.size 0 5) = C at *
      generalize grownCap w a0.size 0 5 = cap at *
      clear hW
      have HC := Lib.hid hC
      have Hr0 := Lib.hid r0
      clear hC r0
      by_cases hm : m = 0
      · have t3 : ((m.toNat : Int) == 0) = true := by rw [hm]; rfl
        have t3' : (m.toNat == 0) = true := by rw [hm]; rfl
        have Hm := Lib.hid hm
        clear hm
        by_cases h0 : a0.size = 0
        · have t4 : decide ((0 : Int) < (a0.size : Int)) = false := decide_eq_false (by omega)
          have t4' : decide (0 < a0.size) = false := decide_eq_false (by omega)
          have he : a0.toList = [] := by rw [ByteArray.toList_eq]; exact List.eq_nil_of_length_eq_zero (by rw [len_data]; exact h0)
          have e1 : (a0.toList == []) = true := by rw [he]; rfl
          have e2 : a0.toList.isEmpty = true := by rw [he]; rfl
          have e3 : decide (a0.toList = []) = true := decide_eq_true he
          obtain ⟨T, HT⟩ : ∃ T : ByteArray, Hid (T = ⟨a0.data.toList.toArray⟩) := ⟨_, rfl⟩
          have Hr : Hid (eqB a0 T = true) := decide_eq_true (ext_bytes _ _ (by rw [HT.out, ba]))
          have Hstr : Hid (∀ X, W.grownBy X none → (convert 26 9 (.slice (some ⟨w.heap.size, 0, none⟩) a0.size cap)).run Tryd.prog X = .ok (.string T) X) := fun X hX => by
            rw [HT.out]; exact rowF_text (Hr0.out.kept hX (by simp)) (len_data a0) HC.out cap
          have gc := gb_refl W none
          clear he h0
          go_enter Tryd.func12, Tryd.ntmps12
          go_wp2_with fail
          refine (equal_any a0 a1 _ (by omega)).mono ?_
          rintro e x1 ⟨rfl, g1⟩
          rw [Hp.out]
          have g2 := gb_none gc g1
          clear g1
          go_wp2_with fail
          refine (equal_any a0 a0 _ (by omega)).mono ?_
          rintro e x2 ⟨rfl, g3⟩
          rw [eqB_self]
          have hstr := Hstr.out x2 (gb_none g2 g3)
          replace g3 := gb_none g2 g3
          clear g2
          go_wp2_with fail
          refine (equal_any a0 T _ (by omega)).mono ?_
          rintro e x3 ⟨rfl, g4⟩
          rw [Hr.out]
          replace g4 := gb_none g3 g4
          clear g3 hstr
          go_wp2_with fail
          refine (equal_any a0 _ _ (by omega)).mono ?_
          rintro e x4 ⟨rfl, g5⟩
          rw [eqB_more a0 _ (by decide)]
          replace g5 := gb_none g4 g5
          clear g4
          go_wp2_with fail
          refine (awake3_any _ (by exact (hT.keep g0 (by simp)).keep g5 (by simp))).mono ?_
          rintro e x5 ⟨rfl, g6⟩
          go_wp2_with fail
          go_ret
          exact ⟨rfl, below_of (gb_none (gb_none g0 g5) g6)⟩
        · have t4 : decide ((0 : Int) < (a0.size : Int)) = true := decide_eq_true (by omega)
          have t4' : decide (0 < a0.size) = true := decide_eq_true (by omega)
          have he : a0.toList ≠ [] := fun h => h0 (by rw [ByteArray.toList_eq] at h; rw [← len_data, h]; rfl)
          have e1 : (a0.toList == []) = false := by rw [beq_eq_false_iff_ne]; exact he
          have e2 : a0.toList.isEmpty = false := by rw [List.isEmpty_eq_false_iff]; exact he
          have e3 : decide (a0.toList = []) = false := decide_eq_false he
          have hn : (0 : Int) < (a0.size : Int) := by omega
          obtain ⟨y, hy⟩ : ∃ y : Nat, a2 % (a0.size : Int) = (y : Int) := ⟨(a2 % (a0.size : Int)).toNat, by have := Int.emod_nonneg a2 (show (a0.size : Int) ≠ 0 by omega); omega⟩
          have hyl : y < a0.size := by have := Int.emod_lt_of_pos a2 hn; omega
          have hyi : (y : Int) < (a0.size : Int) := by omega
          obtain ⟨x, Hx⟩ : ∃ x, Hid (x = a0.data.toList.getD y 0) := ⟨_, rfl⟩
          have cx : W.cell? ⟨w.heap.size, y, none⟩ = some (.int .u8 (x.toNat : Int)) := by rw [Hx.out]; exact Hr0.out.at_ (HC.out y hyl)
          have hf : W.frozen? ⟨w.heap.size, y, none⟩ = false := Hr0.out.free (by omega)
          obtain ⟨T, HT⟩ : ∃ T : ByteArray, Hid (T = ⟨(a0.data.toList.set y (a0.data.toList.getD y 0 ^^^ m)).toArray⟩) := ⟨_, rfl⟩
          have Hr : Hid (eqB a0 T = true) := decide_eq_true (ext_bytes _ _ (by rw [HT.out, ba]; exact ((same_set _ y (by rw [len_data]; exact hyl) m).2 Hm.out).symm))
          have hsame : w8 (a0.data.toList.getD y 0 ^^^ m) = .int .u8 ((x.toNat ^^^ m.toNat : Nat) : Int) := by rw [Hx.out, ← UInt8.toNat_xor]; rfl
          have g0' := gb_set1 W w.heap.size y (.int .u8 ((x.toNat ^^^ m.toNat : Nat) : Int))
          have r1 := Hr0.out.set_ y (.int .u8 ((x.toNat ^^^ m.toNat : Nat) : Int))
          have Hstr : Hid (∀ X, (W.setCell ⟨w.heap.size, y, none⟩ (.int .u8 ((x.toNat ^^^ m.toNat : Nat) : Int))).grownBy X none → (convert 26 9 (.slice (some ⟨w.heap.size, 0, none⟩) a0.size cap)).run Tryd.prog X = .ok (.string T) X) := fun X hX => by
            rw [HT.out]
            refine rowF_text (r1.kept hX (by simp)) (by rw [List.length_set, len_data]) (fun i hi => ?_) cap
            rw [Array.getElem?_setIfInBounds]
            by_cases hiy : y = i
            · subst hiy
              rw [if_pos rfl, if_pos (by omega), ← hsame]
              simp only [List.getD_eq_getElem?_getD, List.getElem?_set_self (show y < a0.data.toList.length by rw [len_data]; exact hyl), Option.getD_some]
            · rw [if_neg hiy, HC.out i hi]
              simp only [List.getD_eq_getElem?_getD, List.getElem?_set_ne hiy]
          replace g0 := gb_new g0 g0' (Nat.le_refl _)
          have gc := gb_refl (W.setCell ⟨w.heap.size, y, none⟩ (.int .u8 ((x.toNat ^^^ m.toNat : Nat) : Int))) none
          clear he h0 hsame g0' r1
          go_enter Tryd.func12, Tryd.ntmps12
          go_wp2_with fail
          refine (equal_any a0 a1 _ (by omega)).mono ?_
          rintro e x1 ⟨rfl, g1⟩
          rw [Hp.out]
          have g2 := gb_none gc g1
          clear g1
          go_wp2_with fail
          refine (equal_any a0 a0 _ (by omega)).mono ?_
          rintro e x2 ⟨rfl, g3⟩
          rw [eqB_self]
          have hstr := Hstr.out x2 (gb_none g2 g3)
          replace g3 := gb_none g2 g3
          clear g2
          go_wp2_with fail
          refine (equal_any a0 T _ (by omega)).mono ?_
          rintro e x3 ⟨rfl, g4⟩
          rw [Hr.out]
          replace g4 := gb_none g3 g4
          clear g3 hstr
          go_wp2_with fail
          refine (equal_any a0 _ _ (by omega)).mono ?_
          rintro e x4 ⟨rfl, g5⟩
          rw [eqB_more a0 _ (by decide)]
          replace g5 := gb_none g4 g5
          clear g4
          go_wp2_with fail
          refine (awake3_any _ (by exact (hT.keep g0 (by simp)).keep g5 (by simp))).mono ?_
          rintro e x5 ⟨rfl, g6⟩
          go_wp2_with fail
          go_ret
          exact ⟨rfl, below_of (gb_none (gb_none g0 g5) g6)⟩
      · have hmn : m.toNat ≠ 0 := fun h => hm (UInt8.toNat_inj.1 h)
        have t3 : ((m.toNat : Int) == 0) = false := by rw [beq_eq_false_iff_ne]; omega
        have t3' : (m.toNat == 0) = false := by rw [beq_eq_false_iff_ne]; exact hmn
        have Hm := Lib.hid hm
        clear hm hmn
        by_cases h0 : a0.size = 0
        · have t4 : decide ((0 : Int) < (a0.size : Int)) = false := decide_eq_false (by omega)
          have t4' : decide (0 < a0.size) = false := decide_eq_false (by omega)
          have he : a0.toList = [] := by rw [ByteArray.toList_eq]; exact List.eq_nil_of_length_eq_zero (by rw [len_data]; exact h0)
          have e1 : (a0.toList == []) = true := by rw [he]; rfl
          have e2 : a0.toList.isEmpty = true := by rw [he]; rfl
          have e3 : decide (a0.toList = []) = true := decide_eq_true he
          obtain ⟨T, HT⟩ : ∃ T : ByteArray, Hid (T = ⟨a0.data.toList.toArray⟩) := ⟨_, rfl⟩
          have Hr : Hid (eqB a0 T = true) := decide_eq_true (ext_bytes _ _ (by rw [HT.out, ba]))
          have Hstr : Hid (∀ X, W.grownBy X none → (convert 26 9 (.slice (some ⟨w.heap.size, 0, none⟩) a0.size cap)).run Tryd.prog X = .ok (.string T) X) := fun X hX => by
            rw [HT.out]; exact rowF_text (Hr0.out.kept hX (by simp)) (len_data a0) HC.out cap
          have gc := gb_refl W none
          clear he h0
          go_enter Tryd.func12, Tryd.ntmps12
          go_wp2_with fail
          refine (equal_any a0 a1 _ (by omega)).mono ?_
          rintro e x1 ⟨rfl, g1⟩
          rw [Hp.out]
          have g2 := gb_none gc g1
          clear g1
          go_wp2_with fail
          refine (equal_any a0 a0 _ (by omega)).mono ?_
          rintro e x2 ⟨rfl, g3⟩
          rw [eqB_self]
          have hstr := Hstr.out x2 (gb_none g2 g3)
          replace g3 := gb_none g2 g3
          clear g2
          go_wp2_with fail
          refine (equal_any a0 T _ (by omega)).mono ?_
          rintro e x3 ⟨rfl, g4⟩
          rw [Hr.out]
          replace g4 := gb_none g3 g4
          clear g3 hstr
          go_wp2_with fail
          refine (equal_any a0 _ _ (by omega)).mono ?_
          rintro e x4 ⟨rfl, g5⟩
          rw [eqB_more a0 _ (by decide)]
          replace g5 := gb_none g4 g5
          clear g4
          go_wp2_with fail
          refine (awake3_any _ (by exact (hT.keep g0 (by simp)).keep g5 (by simp))).mono ?_
          rintro e x5 ⟨rfl, g6⟩
          go_wp2_with fail
          go_ret
          exact ⟨rfl, below_of (gb_none (gb_none g0 g5) g6)⟩
        · have t4 : decide ((0 : Int) < (a0.size : Int)) = true := decide_eq_true (by omega)
          have t4' : decide (0 < a0.size) = true := decide_eq_true (by omega)
          have he : a0.toList ≠ [] := fun h => h0 (by rw [ByteArray.toList_eq] at h; rw [← len_data, h]; rfl)
          have e1 : (a0.toList == []) = false := by rw [beq_eq_false_iff_ne]; exact he
          have e2 : a0.toList.isEmpty = false := by rw [List.isEmpty_eq_false_iff]; exact he
          have e3 : decide (a0.toList = []) = false := decide_eq_false he
          have hn : (0 : Int) < (a0.size : Int) := by omega
          obtain ⟨y, hy⟩ : ∃ y : Nat, a2 % (a0.size : Int) = (y : Int) := ⟨(a2 % (a0.size : Int)).toNat, by have := Int.emod_nonneg a2 (show (a0.size : Int) ≠ 0 by omega); omega⟩
          have hyl : y < a0.size := by have := Int.emod_lt_of_pos a2 hn; omega
          have hyi : (y : Int) < (a0.size : Int) := by omega
          obtain ⟨x, Hx⟩ : ∃ x, Hid (x = a0.data.toList.getD y 0) := ⟨_, rfl⟩
          have cx : W.cell? ⟨w.heap.size, y, none⟩ = some (.int .u8 (x.toNat : Int)) := by rw [Hx.out]; exact Hr0.out.at_ (HC.out y hyl)
          have hf : W.frozen? ⟨w.heap.size, y, none⟩ = false := Hr0.out.free (by omega)
          obtain ⟨T, HT⟩ : ∃ T : ByteArray, Hid (T = ⟨(a0.data.toList.set y (a0.data.toList.getD y 0 ^^^ m)).toArray⟩) := ⟨_, rfl⟩
          have Hr : Hid (eqB a0 T = false) := decide_eq_false (fun h => Hm.out ((same_set a0.data.toList y (by rw [len_data]; exact hyl) m).1 (by have h2 := congrArg (fun t => t.data.toList) h; simp only [HT.out] at h2; rw [ba] at h2; exact h2.symm)))
          have hsame : w8 (a0.data.toList.getD y 0 ^^^ m) = .int .u8 ((x.toNat ^^^ m.toNat : Nat) : Int) := by rw [Hx.out, ← UInt8.toNat_xor]; rfl
          have g0' := gb_set1 W w.heap.size y (.int .u8 ((x.toNat ^^^ m.toNat : Nat) : Int))
          have r1 := Hr0.out.set_ y (.int .u8 ((x.toNat ^^^ m.toNat : Nat) : Int))
          have Hstr : Hid (∀ X, (W.setCell ⟨w.heap.size, y, none⟩ (.int .u8 ((x.toNat ^^^ m.toNat : Nat) : Int))).grownBy X none → (convert 26 9 (.slice (some ⟨w.heap.size, 0, none⟩) a0.size cap)).run Tryd.prog X = .ok (.string T) X) := fun X hX => by
            rw [HT.out]
            refine rowF_text (r1.kept hX (by simp)) (by rw [List.length_set, len_data]) (fun i hi => ?_) cap
            rw [Array.getElem?_setIfInBounds]
            by_cases hiy : y = i
            · subst hiy
              rw [if_pos rfl, if_pos (by omega), ← hsame]
              simp only [List.getD_eq_getElem?_getD, List.getElem?_set_self (show y < a0.data.toList.length by rw [len_data]; exact hyl), Option.getD_some]
            · rw [if_neg hiy, HC.out i hi]
              simp only [List.getD_eq_getElem?_getD, List.getElem?_set_ne hiy]
          replace g0 := gb_new g0 g0' (Nat.le_refl _)
          have gc := gb_refl (W.setCell ⟨w.heap.size, y, none⟩ (.int .u8 ((x.toNat ^^^ m.toNat : Nat) : Int))) none
          clear he h0 hsame g0' r1
          go_enter Tryd.func12, Tryd.ntmps12
          go_wp2_with fail
          refine (equal_any a0 a1 _ (by omega)).mono ?_
          rintro e x1 ⟨rfl, g1⟩
          rw [Hp.out]
          have g2 := gb_none gc g1
          clear g1
          go_wp2_with fail
          refine (equal_any a0 a0 _ (by omega)).mono ?_
          rintro e x2 ⟨rfl, g3⟩
          rw [eqB_self]
          have hstr := Hstr.out x2 (gb_none g2 g3)
          replace g3 := gb_none g2 g3
          clear g2
          go_wp2_with fail
          refine (equal_any a0 T _ (by omega)).mono ?_
          rintro e x3 ⟨rfl, g4⟩
          rw [Hr.out]
          replace g4 := gb_none g3 g4
          clear g3 hstr
          go_wp2_with fail
          refine (equal_any a0 _ _ (by omega)).mono ?_
          rintro e x4 ⟨rfl, g5⟩
          rw [eqB_more a0 _ (by decide)]
          replace g5 := gb_none g4 g5
          clear g4
          go_wp2_with fail
          refine (awake3_any _ (by exact (hT.keep g0 (by simp)).keep g5 (by simp))).mono ?_
          rintro e x5 ⟨rfl, g6⟩
          go_wp2_with fail
          go_ret
          exact ⟨rfl, below_of (gb_none (gb_none g0 g5) g6)⟩

def zs1 : List Int := [1779033703, 3144134277, 1013904242, 2773480762, 1359893119, 2600822924, 528734635, 1541459225]
def zs2 : List Int := [1116352408, 1899447441, 3049323471, 3921009573, 961987163, 1508970993, 2453635748, 2870763221, 3624381080, 310598401, 607225278, 1426881987, 1925078388, 2162078206, 2614888103, 3248222580, 3835390401, 4022224774, 264347078, 604807628, 770255983, 1249150122, 1555081692, 1996064986, 2554220882, 2821834349, 2952996808, 3210313671, 3336571891, 3584528711, 113926993, 338241895, 666307205, 773529912, 1294757372, 1396182291, 1695183700, 1986661051, 2177026350, 2456956037, 2730485921, 2820302411, 3259730800, 3345764771, 3516065817, 3600352804, 4094571909, 275423344, 430227734, 506948616, 659060556, 883997877, 958139571, 1322822218, 1537002063, 1747873779, 1955562222, 2024104815, 2227730452, 2361852424, 2428436474, 2756734187, 3204031479, 3329325298]
theorem tabs {W : World} (h : laidMetH Tryd.prog Rows.hmacEqualRow.laid W) : Tabs W := by
  have h1 : Lib.TabIs Tryd.prog W "deaddrop/sha.opening" .u32 zs1 := Lib.tabIs_of_head (rest := [("deaddrop/sha.roundNumbers", Rows.laid_deaddrop_sha_roundNumbers)]) (g := 0) (t := 43) (e := 42) (n := 8) (by kernel_rfl) (by kernel_rfl) Tryd.underlying43 Tryd.underlying42 (by kernel_rfl) (by kernel_rfl) h
  have h2 : Lib.TabIs Tryd.prog W "deaddrop/sha.roundNumbers" .u32 zs2 := Lib.tabIs_of_head (rest := []) (g := 3) (t := 82) (e := 42) (n := 64) (by kernel_rfl) (by kernel_rfl) Tryd.underlying82 Tryd.underlying42 (by kernel_rfl) (by kernel_rfl) (laidMetH.filter (fun x => x.1 == "deaddrop/sha.roundNumbers") h)
  have e1 : ∀ i, i < 8 → zs1.getD i 0 = ((firstH.getD i 0).toNat : Int) := by decide
  have e2 : ∀ i, i < 64 → zs2.getD i 0 = ((konst.getD i 0).toNat : Int) := by decide +kernel
  have c1 : ∀ i, i < 8 → W.cell? ⟨0, i, none⟩ = some (w32 (firstH.getD i 0)) := fun i hi => by
    have := h1.cell (g := 0) (by kernel_rfl) i (by rw [show zs1.length = 8 from rfl]; exact hi)
    rw [e1 i hi] at this; exact this
  have c2 : ∀ i, i < 64 → W.cell? ⟨3, i, none⟩ = some (w32 (konst.getD i 0)) := fun i hi => by
    have := h2.cell (g := 3) (by kernel_rfl) i (by rw [show zs2.length = 64 from rfl]; exact hi)
    rw [e2 i hi] at this; exact this
  exact ⟨block_lt_of_cell (c2 0 (by decide)), c1, c2⟩

set_option maxRecDepth 100000 in
theorem contract (H : Type) (enc : TypeId × Value → H) (W : World) (base : Nat) (args : Array Value) (ds gs : List (DataW H)) (before : List MemPlace)
    (hval0 : ∀ (j : Nat) t v, Tryd.f12.params[j]? = some t → args[j]? = some v → Value.okWide Tryd.prog W .any base t v)
    (hW : DataW.Whole enc Tryd.prog Tryd.f12.params.toList Rows.hmacEqualSpec.vars false W args.toList ds gs before) (hL : laidMetH Tryd.prog Rows.hmacEqualRow.laid W) :
    Calls Tryd.prog 12 args W fun e W' => ∃ v, e = .returned v ∧ Rows.hmacEqualSpec.post enc Tryd.prog Tryd.f12 false true false false W args v W' := by
  have hval : ∀ (j : Nat) t v, Tryd.f12.params[j]? = some t → args[j]? = some v → Value.okWide Tryd.prog W .any base t v := hval0
  have hW' := hW
  obtain ⟨p, q, hA0, hV, rfl, hfz, hnd⟩ := hW
  have hA : DataW.TrodAll enc Tryd.prog W 0 (fun _ => true) true Tryd.f12.params.toList args.toList ds p := hA0
  rw [Tryd.params12] at hA hval
  obtain ⟨v0, vs0, d0, ds0, p0, q0, hargs, rfl, rfl, h0, r0⟩ := trodAll_cons hA
  obtain ⟨v1, vs1, d1, ds1, p1, q1, rfl, rfl, rfl, h1, r1⟩ := trodAll_cons r0
  obtain ⟨v2, vs2, d2, ds2, p2, q2, rfl, rfl, rfl, h2, r2⟩ := trodAll_cons r1
  obtain ⟨v3, vs3, d3, ds3, p3, q3, rfl, rfl, rfl, h3, r3⟩ := trodAll_cons r2
  obtain ⟨rfl, rfl, rfl⟩ := trodAll_nil r3
  obtain rfl : args = #[v0, v1, v2, v3] := by cases args; simp_all
  obtain ⟨rfl, rfl⟩ := trodVars_none hV
  obtain ⟨a0, rfl, rfl, rfl, w0⟩ := open_string Tryd.underlying9 (hval 0 9 v0 rfl rfl) h0
  obtain ⟨a1, rfl, rfl, rfl, w1⟩ := open_string Tryd.underlying9 (hval 1 9 v1 rfl rfl) h1
  obtain ⟨a2, rfl, rfl, rfl, w2⟩ := open_int Tryd.underlying39 (hval 2 39 v2 rfl rfl) h2
  obtain ⟨a3, rfl, rfl, rfl, w3⟩ := open_int Tryd.underlying5 (hval 3 5 v3 rfl rfl) h3
  clear hA0 hval0
  simp only [List.append_nil] at hW'
  refine (walk a0 a1 a2 a3 w0 w1 w2 w3 W (tabs hL)).mono fun e W' ⟨he, hg⟩ => ?_
  subst he
  exact ⟨_, rfl, _, _, _, [], [], [], hW', (trodAll_cons_mk (shut_bool Tryd.underlying4 _) trodAll_mk0), (trodAll_cons_mk (shut_string Tryd.underlying9 w0) (trodAll_cons_mk (shut_string Tryd.underlying9 w1) (trodAll_cons_mk (shut_int Tryd.underlying39 w2) (trodAll_cons_mk (shut_int Tryd.underlying5 w3) trodAll_mk0)))), rfl, hg.frame _, fun h => by cases h⟩

def lay (cs : Array Value) : Obj → Obj
  | .cells _ t frozen => .cells cs t frozen
  | o => o
noncomputable def laidWorld (os : Os) : World :=
  { World.holding Tryd.prog os ⟨#[], #[], []⟩ with heap := ((World.holding Tryd.prog os ⟨#[], #[], []⟩).heap.modify 0 (lay #[.int .u32 1779033703, .int .u32 3144134277, .int .u32 1013904242, .int .u32 2773480762, .int .u32 1359893119, .int .u32 2600822924, .int .u32 528734635, .int .u32 1541459225])).modify 3 (lay #[.int .u32 1116352408, .int .u32 1899447441, .int .u32 3049323471, .int .u32 3921009573, .int .u32 961987163, .int .u32 1508970993, .int .u32 2453635748, .int .u32 2870763221, .int .u32 3624381080, .int .u32 310598401, .int .u32 607225278, .int .u32 1426881987, .int .u32 1925078388, .int .u32 2162078206, .int .u32 2614888103, .int .u32 3248222580, .int .u32 3835390401, .int .u32 4022224774, .int .u32 264347078, .int .u32 604807628, .int .u32 770255983, .int .u32 1249150122, .int .u32 1555081692, .int .u32 1996064986, .int .u32 2554220882, .int .u32 2821834349, .int .u32 2952996808, .int .u32 3210313671, .int .u32 3336571891, .int .u32 3584528711, .int .u32 113926993, .int .u32 338241895, .int .u32 666307205, .int .u32 773529912, .int .u32 1294757372, .int .u32 1396182291, .int .u32 1695183700, .int .u32 1986661051, .int .u32 2177026350, .int .u32 2456956037, .int .u32 2730485921, .int .u32 2820302411, .int .u32 3259730800, .int .u32 3345764771, .int .u32 3516065817, .int .u32 3600352804, .int .u32 4094571909, .int .u32 275423344, .int .u32 430227734, .int .u32 506948616, .int .u32 659060556, .int .u32 883997877, .int .u32 958139571, .int .u32 1322822218, .int .u32 1537002063, .int .u32 1747873779, .int .u32 1955562222, .int .u32 2024104815, .int .u32 2227730452, .int .u32 2361852424, .int .u32 2428436474, .int .u32 2756734187, .int .u32 3204031479, .int .u32 3329325298]) }
theorem laid_met (os : Os) : laidMet Tryd.prog Rows.hmacEqualRow.laid ((laidWorld os).forCall (fun _ _ => 0) ⟨#[], #[.string ByteArray.empty, .string ByteArray.empty, .int .u16 0, .int .u8 0], []⟩).memory :=
  laidMet_of_run' 8 (by kernel_rfl) (by kernel_rfl)
theorem reads (os : Os) {H : Type} (enc : TypeId × Value → H) : ∃ places, DataW.whole enc Tryd.prog ((laidWorld os).forCall (fun _ _ => 0) ⟨#[], #[.string ByteArray.empty, .string ByteArray.empty, .int .u16 0, .int .u8 0], []⟩).memory Tryd.f12.params.toList Rows.hmacEqualSpec.vars false (show Array Value from #[.string ByteArray.empty, .string ByteArray.empty, .int .u16 0, .int .u8 0]).toList 8 = some ([.lit (.string []), .lit (.string []), .lit (.int .u16 0), .lit (.int .u8 0)], [], places) :=
  ⟨[], by kernel_rfl⟩

set_option maxRecDepth 100000 in
theorem lifted (os : Os) (started : os.Started) (H : Type) (enc : TypeId × Value → H) (F : Stop.Interp) :
    ReturnsInHanded {} Tryd.checked os 12 .any ((OpenSpec.ofChange Rows.hmacEqualSpec).preRow enc Tryd.prog Tryd.f12 Rows.hmacEqualRow.domain false Rows.hmacEqualRow.laid) (((OpenSpec.ofChange Rows.hmacEqualSpec).at F).post enc Tryd.prog Tryd.f12 false true false false) := by
  obtain ⟨places, hx⟩ := reads os enc
  refine returnsInHanded_of_row (C := Tryd.checked) (s := OpenSpec.ofChange Rows.hmacEqualSpec) own started (by kernel_rfl) Tryd.func12
    (witness_row_at (enc := enc) (C := Tryd.checked) false (laidWorld os) #[.string ByteArray.empty, .string ByteArray.empty, .int .u16 0, .int .u8 0] rfl (by kernel_rfl) (by kernel_rfl) (by kernel_rfl)
      (OpenSpec.preRow_of_cond 8 hx (by kernel_rfl) (fun k hk => by cases hk) (by kernel_rfl) (laid_met os))) ?_
  intro W base args ds gs before hval hW _ _ _ hL _ _
  exact contract H enc W base args ds gs before hval hW hL

theorem said : Rows.HmacEqualSaid :=
  OpenClaim.holds_of_cond 12 Tryd.f12 rfl rfl rfl rfl rfl rfl rfl ⟨rfl, rfl, rfl, rfl, rfl⟩ rfl rfl rfl rfl rfl (by kernel_rfl) Tryd.func12 (by kernel_rfl)
    (of_decide_eq_true (by kernel_rfl)) (by unfold Func.isWrapper; first | (rw [if_pos (by decide +kernel)]; kernel_rfl) | (rw [if_neg (by decide +kernel)]; exact ⟨rfl, rfl⟩))
    (fun os started H enc _ F => by rw [OpenClaim.pre_eq_preRow]; exact lifted os started H enc F)

theorem plain (f : FuncId) (fn : Func) (hf : Tryd.pinned.checked.prog.funcNamed "deaddrop/deaddroplaw3.HmacEqual" = some f) (hfn : Tryd.pinned.checked.prog.funcs[f]? = some fn) :
    true = Tryd.pinned.checked.prog.looks [] ∧ ∀ (j : Nat) t, fn.params[j]? = some t → Tryd.pinned.checked.prog.wantsStandIn t = false := by
  obtain rfl : f = 12 := Option.some.inj ((show Tryd.prog.funcNamed "deaddrop/deaddroplaw3.HmacEqual" = some 12 by kernel_rfl).symm.trans hf) |>.symm
  obtain rfl : fn = Tryd.f12 := (Option.some.inj (Tryd.func12.symm.trans hfn)).symm
  refine ⟨by kernel_rfl, fun j t ht => ?_⟩
  have hall : (Tryd.f12.params.toList.all fun u => !Tryd.prog.wantsStandIn u) = true := by kernel_rfl
  have hm : t ∈ Tryd.f12.params.toList := by simpa using Array.mem_of_getElem? ht
  exact (show Tryd.prog.wantsStandIn t = false by simpa using List.all_eq_true.1 hall t hm)

theorem card : Rows.HmacEqualCardSaid :=
  Claim7.holds_tied_plain_at .later [] _ _ _ _ said (fun _ h => by cases h) (by kernel_rfl) (fun _ h => by cases h) hmacEqual_row_tie rfl ⟨rfl, rfl⟩ (by kernel_rfl) rfl plain (by kernel_rfl)
#print axioms card
end Go.Proofs.YtalobkggpdniaaaDoor.hmacEqual
