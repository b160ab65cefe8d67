/- What xored twice is: plain lemmas, no program. -/
import Derived.Test.YthdealjnhgkoiaaDoorBxXored
namespace Go.Proofs.YthdealjnhgkoiaaDoor.Bx
open Go.RowKit Wd Mm Cc

theorem xb_twice (a b : UInt8) : xb (xb a b) b = a := by
  unfold xb
  rw [UInt8.xor_assoc, UInt8.xor_self, UInt8.xor_zero]
theorem xorS_getD (k n : List UInt8) (c : Int) (bs : List UInt8) (i : Nat) (h : i < bs.length) : (xorS k n c bs).getD i 0 = xb (bs.getD i 0) (keyB k n c i) := by
  rw [List.getD_eq_getElem?_getD, List.getElem?_eq_getElem (by rw [xorS_len]; exact h)]
  simp [xorS]
theorem ext_getD {a b : List UInt8} (hl : a.length = b.length) (h : ∀ i, i < a.length → a.getD i 0 = b.getD i 0) : a = b := by
  apply List.ext_getElem hl
  intro i h1 h2
  have e := h i h1
  rw [List.getD_eq_getElem?_getD, List.getElem?_eq_getElem h1, List.getD_eq_getElem?_getD, List.getElem?_eq_getElem h2] at e
  exact e
theorem xorS_twice (k n : List UInt8) (c : Int) (bs : List UInt8) : xorS k n c (xorS k n c bs) = bs := by
  refine ext_getD (by rw [xorS_len, xorS_len]) (fun i hi => ?_)
  rw [xorS_len, xorS_len] at hi
  rw [xorS_getD _ _ _ _ _ (by rw [xorS_len]; exact hi), xorS_getD _ _ _ _ _ hi, xb_twice]
theorem bytes_ext (a b : ByteArray) (h : a.data.toList = b.data.toList) : a = b := by
  cases a; cases b
  congr 1
  exact Array.ext' h
theorem xorB_data (key nonce s : ByteArray) (hk : key.size = 64) (hn : nonce.size = 12) (hs : s.size ≤ 1048576) : (xorB key nonce s).data.toList = xorS (key.extract 0 32).data.toList nonce.data.toList 1 s.data.toList := by
  unfold xorB
  rw [Cc.ba]
  by_cases h0 : s.size = 0
  · have e : s.data.toList = [] := List.eq_nil_of_length_eq_zero (by rw [Cc.len_data]; exact h0)
    rw [e, xorA, if_pos List.length_nil]
    exact (List.eq_nil_of_length_eq_zero (by rw [xorS_len]; rfl)).symm
  · exact xorA_fit _ nonce 1 s h0 ⟨by rw [ByteArray.size_extract]; omega, hn, by omega, by omega⟩
theorem xorB_size (key nonce s : ByteArray) (hk : key.size = 64) (hn : nonce.size = 12) (hs : s.size ≤ 1048576) : (xorB key nonce s).size = s.size := by
  rw [← Cc.len_data, xorB_data key nonce s hk hn hs, xorS_len, Cc.len_data]
theorem xorB_twice (key nonce s : ByteArray) (hk : key.size = 64) (hn : nonce.size = 12) (hs : s.size ≤ 1048576) : xorB key nonce (xorB key nonce s) = s := by
  apply bytes_ext
  rw [xorB_data key nonce _ hk hn (by rw [xorB_size key nonce s hk hn hs]; exact hs), xorB_data key nonce s hk hn hs, xorS_twice]
end Go.Proofs.YthdealjnhgkoiaaDoor.Bx
