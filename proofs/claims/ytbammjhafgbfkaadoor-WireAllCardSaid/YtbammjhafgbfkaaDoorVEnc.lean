/- A wire's bytes: plain. -/
import Derived.Test.YtbammjhafgbfkaaDoorVWr
import Derived.Test.YtbammjhafgbfkaaDoorWord
namespace Go.Proofs.YtbammjhafgbfkaaDoor.Vw
open Go Go.RowKit Go.Proofs.YtbammjhafgbfkaaDoor.Mm Go.Proofs.YtbammjhafgbfkaaDoor.Wd

/-- The byte of n that begins at bit 8 j. -/
def hiB (n : Int) (j : Nat) : UInt8 := UInt8.ofNat ((n / 2 ^ (8 * j)) % 256).toNat
/-- So many of n's lowest bytes, the highest first. -/
def highs (n : Int) : Nat → List UInt8
  | 0 => []
  | j + 1 => hiB n j :: highs n j
theorem highs_len (n : Int) (j : Nat) : (highs n j).length = j := by
  induction j with
  | zero => rfl
  | succ j ih => simp [highs, ih]
theorem hiB_nat (n : Int) (j : Nat) : ((hiB n j).toNat : Int) = (n / 2 ^ (8 * j)) % 256 := by
  unfold hiB
  have h1 := Int.emod_nonneg (n / 2 ^ (8 * j)) (show (256 : Int) ≠ 0 by decide)
  have h2 := Int.emod_lt_of_pos (n / 2 ^ (8 * j)) (show (0 : Int) < 256 by decide)
  rw [UInt8.toNat_ofNat', Nat.mod_eq_of_lt (by omega)]
  omega
mutual
def Wr.enc : Wr → List UInt8
  | .mk k n s l => UInt8.ofNat (k % 256).toNat :: (if k = 1 then highs n 8 else if k = 2 then highs s.size 4 ++ s.data.toList else highs l.length 4 ++ encs l)
def encs : List Wr → List UInt8
  | [] => []
  | x :: r => x.enc ++ encs r
end
theorem enc_mk (k n : Int) (s : ByteArray) (l : List Wr) : (Wr.mk k n s l).enc = UInt8.ofNat (k % 256).toNat :: (if k = 1 then highs n 8 else if k = 2 then highs s.size 4 ++ s.data.toList else highs l.length 4 ++ encs l) := by rw [Wr.enc]
theorem encs_cons (x : Wr) (r : List Wr) : encs (x :: r) = x.enc ++ encs r := by rw [encs]
theorem encs_nil : encs [] = [] := by rw [encs]
theorem encs_take (l : List Wr) (i : Nat) (x : Wr) (h : l[i]? = some x) : encs (l.take (i + 1)) = encs (l.take i) ++ x.enc := by
  obtain ⟨hi, rfl⟩ := List.getElem?_eq_some_iff.1 h
  induction l generalizing i with
  | nil => simp at hi
  | cons y r ih =>
    cases i with
    | zero => simp [encs_cons, encs_nil]
    | succ i =>
      have hi' : i < r.length := by simpa using hi
      simp only [List.take_succ_cons, encs_cons, List.append_assoc, List.getElem_cons_succ]
      rw [ih i hi' (List.getElem?_eq_getElem hi')]
theorem enc_pos (x : Wr) : 5 ≤ x.enc.length ∨ ¬ (x.k = 1 ∨ x.k = 2 ∨ x.k = 3) := by
  obtain ⟨k, n, s, l⟩ := x
  rw [enc_mk]
  by_cases h1 : k = 1
  · left; simp [h1, highs_len]
  · by_cases h2 : k = 2
    · left; simp [h2, highs_len]
    · left; simp [h1, h2, highs_len]
theorem encs_part (l : List Wr) (i : Nat) (x : Wr) (h : l[i]? = some x) : (encs (l.take i)).length + x.enc.length ≤ (encs l).length := by
  have h1 := encs_take l i x h
  have h2 : (encs l).length = (encs (l.take (i + 1))).length + (encs (l.drop (i + 1))).length := by
    have : ∀ a b, encs (a ++ b) = encs a ++ encs b := by
      intro a b
      induction a with
      | nil => simp [encs_nil]
      | cons y r ih => simp [encs_cons, ih]
    rw [← List.length_append, ← this, List.take_append_drop]
  rw [h2, h1, List.length_append]
  omega
/-- A wire's bytes as a text; of one that may not be none. -/
def Wr.bytes (x : Wr) : ByteArray := if x.may then ⟨x.enc.toArray⟩ else ⟨#[]⟩
/-- Bytes as a number, the highest first. -/
def beN (l : List UInt8) : Nat := l.foldl (fun a c => a * 256 + c.toNat) 0
theorem beN_snoc (l : List UInt8) (c : UInt8) : beN (l ++ [c]) = beN l * 256 + c.toNat := by simp [beN]
/-- .. as the program has it: in 64 bits. -/
def valI (l : List UInt8) : Int := wrap64 (beN l : Int)
theorem valI_nil : valI [] = 0 := by simp [valI, beN, wrap64]
theorem or_byte (m : Int) (c : Nat) (hc : c < 256) : bits .or .i64 (wrap64 (m * 256)) (wrap64 (c : Int)) = wrap64 (m * 256 + c) := by
  have hc' : wrap64 (c : Int) = c := by unfold wrap64; omega
  rw [hc']
  show IntKind.i64.wrap ((BitVec.ofInt 64 (wrap64 (m * 256)) ||| BitVec.ofInt 64 (c : Int)).toNat : Int) = _
  obtain ⟨q, hq⟩ : ∃ q : Nat, (BitVec.ofInt 64 (wrap64 (m * 256))).toNat = 256 * q := by
    rw [BitVec.toNat_ofInt]
    refine ⟨((wrap64 (m * 256)) % 2 ^ 64).toNat / 256, ?_⟩
    unfold wrap64
    omega
  have h2 : (BitVec.ofInt 64 (c : Int)).toNat = c := by
    rw [BitVec.toNat_ofInt]; omega
  have h3 : 256 * q ||| c = 256 * q + c := (Nat.two_pow_add_eq_or_of_lt (i := 8) (by omega) q).symm
  rw [BitVec.toNat_or, hq, h2, h3, IntKind.wrap_i64]
  rw [BitVec.toNat_ofInt] at hq
  unfold wrap64 at hq ⊢
  omega
theorem valI_snoc (l : List UInt8) (c : UInt8) : bits .or .i64 (wrap64 (valI l * 256)) (wrap64 (c.toNat : Int)) = valI (l ++ [c]) := by
  rw [or_byte _ _ c.toNat_lt]
  unfold valI
  rw [beN_snoc]
  unfold wrap64
  omega
end Go.Proofs.YtbammjhafgbfkaaDoor.Vw
