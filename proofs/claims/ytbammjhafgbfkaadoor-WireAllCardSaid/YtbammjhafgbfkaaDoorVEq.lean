/- Two wires that are one: plain. -/
import Derived.Test.YtbammjhafgbfkaaDoorVWr
namespace Go.Proofs.YtbammjhafgbfkaaDoor.Vw
open Go Go.RowKit Go.Proofs.YtbammjhafgbfkaaDoor.Mm

/-! ### Two that are one -/
mutual
def Wr.same : Wr → Wr → Bool
  | .mk k n s l, .mk k' n' s' l' => k == k' && n == n' && s.toList == s'.toList && l.length == l'.length && sameAll l l'
def sameAll : List Wr → List Wr → Bool
  | [], _ => true
  | _ :: _, [] => true
  | x :: r, y :: q => x.same y && sameAll r q
end
theorem same_mk (k n : Int) (s : ByteArray) (l : List Wr) (k' n' : Int) (s' : ByteArray) (l' : List Wr) : (Wr.mk k n s l).same (.mk k' n' s' l') = (k == k' && n == n' && s.toList == s'.toList && l.length == l'.length && sameAll l l') := by rw [Wr.same]
theorem sameAll_nil (q : List Wr) : sameAll [] q = true := by rw [sameAll]
theorem sameAll_cons (x y : Wr) (r q : List Wr) : sameAll (x :: r) (y :: q) = (x.same y && sameAll r q) := by rw [sameAll]
theorem sameAll_drop (l q : List Wr) (i : Nat) (x y : Wr) (h : l[i]? = some x) (h' : q[i]? = some y) : sameAll (l.drop i) (q.drop i) = (x.same y && sameAll (l.drop (i + 1)) (q.drop (i + 1))) := by
  obtain ⟨hi, rfl⟩ := List.getElem?_eq_some_iff.1 h
  obtain ⟨hj, rfl⟩ := List.getElem?_eq_some_iff.1 h'
  rw [List.drop_eq_getElem_cons hi, List.drop_eq_getElem_cons hj, sameAll_cons]
theorem text_ext {a b : ByteArray} (h : a.toList = b.toList) : a = b := by
  rw [ByteArray.toList_eq, ByteArray.toList_eq] at h
  cases a; cases b
  simp only at h
  congr 1
  exact Array.ext' h
mutual
theorem same_self : ∀ x : Wr, x.same x = true
  | .mk k n s l => by
    rw [same_mk, all_self l]
    simp
theorem all_self : ∀ l : List Wr, sameAll l l = true
  | [] => sameAll_nil _
  | x :: r => by rw [sameAll_cons, same_self x, all_self r]; rfl
end
mutual
theorem same_eq : ∀ x y : Wr, x.same y = true → x = y
  | .mk k n s l, .mk k' n' s' l', h => by
    rw [same_mk] at h
    simp only [Bool.and_eq_true, beq_iff_eq] at h
    obtain ⟨⟨⟨⟨rfl, rfl⟩, hs⟩, hl⟩, ha⟩ := h
    rw [text_ext hs, all_eq l l' hl ha]
theorem all_eq : ∀ l q : List Wr, l.length = q.length → sameAll l q = true → l = q
  | [], [], _, _ => rfl
  | [], _ :: _, h, _ => by simp at h
  | _ :: _, [], h, _ => by simp at h
  | x :: r, y :: q, h, ha => by
    rw [sameAll_cons, Bool.and_eq_true] at ha
    rw [same_eq x y ha.1, all_eq r q (by simpa using h) ha.2]
end
end Go.Proofs.YtbammjhafgbfkaaDoor.Vw
