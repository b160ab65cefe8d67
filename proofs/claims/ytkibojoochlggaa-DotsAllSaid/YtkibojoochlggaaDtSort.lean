/- slices.SortFunc over runs: a permutation, as they begin. -/
import Derived.Test.YtkibojoochlggaaDtCmp
import Derived.Test.YtkibojoochlggaaDtUnion
import Derived.Test.YtkibojoochlggaaDtPure2
import Derived.Test.YtkibojoochlggaaShelf
import Derived.Shelf.SlSortCmp.NoneTotal
import Derived.Laws.OwnMore
namespace Go.Proofs.Ytkibojoochlggaa.Dt
open Go Go.RowKit Go.Proofs.Ytkibojoochlggaa.Mm Go.Sort

instance : Inhabited Rn := ⟨⟨0, 0, 0⟩⟩
def encR (r : Rn) : List Value := [.int .i64 r.d, .int .i64 r.f, .int .i64 r.t]
theorem flat_rv (S : List Rn) : flatK encR 3 S.toArray = (rv S).toArray := by
  refine ext_get! (by simp [rv_len]) fun t ht => ?_
  have ht' : t < S.length * 3 := by simpa using ht
  rw [get_flatK _ _ _ t (by simpa using ht')]
  obtain ⟨x, hx⟩ : ∃ x, S[t / 3]? = some x := ⟨_, List.getElem?_eq_getElem (by omega)⟩
  obtain ⟨r0, r1, r2⟩ := rv_at S (t / 3) x hx
  have e : S.toArray[t / 3]! = x := by
    rw [Array.getElem!_eq_getD, Array.getD_eq_getD_getElem?, List.getElem?_toArray, hx]; rfl
  rw [e, Array.getElem!_eq_getD, Array.getD_eq_getD_getElem?, List.getElem?_toArray]
  have hm : t % 3 = 0 ∨ t % 3 = 1 ∨ t % 3 = 2 := by omega
  rcases hm with hm | hm | hm
  · rw [hm, show t = t / 3 * 3 by omega, r0]; rfl
  · rw [hm, show t = t / 3 * 3 + 1 by omega, r1]; rfl
  · rw [hm, show t = t / 3 * 3 + 2 by omega, r2]; rfl
theorem byB_swo : SWO (ltOf byB) where
  irrefl x := by simp only [ltOf, decide_eq_false_iff_not, byB_neg]; omega
  trans x y z h1 h2 := by simp only [ltOf, decide_eq_true_eq, byB_neg] at *; omega
  ntrans x y z h1 h2 := by simp only [ltOf, decide_eq_false_iff_not, byB_neg] at *; omega
theorem beg_of {x y : Rn} (h : ltOf byB y x = false) : Beg x y := by
  simp only [ltOf, decide_eq_false_iff_not, byB_neg] at h
  unfold Beg; omega
theorem byB_lays (blk off size : Nat) (w : World) : Go.Proofs.CmpLays Try.prog 30 #[] encR 3 byB blk off size w :=
  fun _ _ _ _ x y => byBegin_any x y _
theorem holds_rv {w : World} {B n cap g : Nat} {S : List Rn} (h : w.ownsRow B 41 3 (.slice (some ⟨g, 0, none⟩) n cap) n (rv S)) (hS : S.length = n) : HoldsK encR 3 w g 0 S.toArray := by
  unfold HoldsK
  rw [flat_rv]
  intro j hj
  have hj' : j < n * 3 := by simp [rv_len] at hj; omega
  rw [Nat.zero_add]
  refine ⟨?_, World.ownsRow.frozenAt h j⟩
  rw [World.ownsRow.cellAt h j hj', Array.getElem!_eq_getD, Array.getD_eq_getD_getElem?, List.getElem?_toArray, List.getElem?_eq_getElem (by rw [rv_len, hS]; exact hj')]
  rfl
theorem sorted_own {w : World} {B n cap m g : Nat} {S S' : List Rn} {os : Array Obj} (h : w.ownsRow B 41 3 (.slice (some ⟨g, 0, none⟩) n cap) n (rv S)) (hl : S'.length = n) :
    (sortWorldK encR 3 w g 0 m S'.toArray os).ownsRow B 41 3 (.slice (some ⟨g, 0, none⟩) n cap) n (rv S') ∧ w.grownBy (sortWorldK encR 3 w g 0 m S'.toArray os) (some g) := by
  rcases h.2 with ⟨e0, _⟩ | ⟨g', cap', cur, e0, hb, hg, hn, hm, hs, ht⟩
  · cases e0
  · injection e0 with e1 _ e3
    injection e1 with e1
    injection e1 with e1
    subst e1; subst e3
    have hlt : g < w.heap.size := (Array.getElem?_eq_some_iff.1 hg).1
    have hlt2 : g < (putRow id (Sort.ahead w m) g 0 (rv S').toArray).heap.size := by simpa [putRow, mapBlock, Sort.ahead] using hlt
    unfold sortWorldK putRowK
    rw [flat_rv]
    refine ⟨⟨by rw [rv_len, hl], .inr ⟨g, cap, putCells id 0 (rv S').toArray cur, rfl, hb, ?_, hn, hm, by simpa [putCells] using hs, ?_⟩⟩, ⟨rfl, rfl, rfl, ?_, fun k hk hne => ?_⟩⟩
    · rw [heap_grow_old _ _ hlt2]
      simp [putRow, mapBlock, Sort.ahead, Array.getElem?_modify, hg, onCells]
    · apply List.ext_getElem?
      intro j
      rw [List.getElem?_take, Array.getElem?_toList]
      by_cases hj : j < n * 3
      · have hjc : j < cur.size := by have := Nat.mul_le_mul_right 3 hn; omega
        have hjr : j < (rv S').length := by rw [rv_len, hl]; exact hj
        simp only [if_pos hj, putCells, Array.getElem?_mapIdx, Array.getElem?_eq_getElem hjc, Option.map_some]
        rw [if_pos (by simp; omega), List.getElem?_eq_getElem hjr]
        simp [getElem!_pos, hjr]
      · rw [if_neg hj, List.getElem?_eq_none (by rw [rv_len, hl]; omega)]
    · simp [putRow, mapBlock, Sort.ahead]
    · have hne' : g ≠ k := fun e => hne (by rw [e])
      rw [heap_grow_old _ _ (by simpa [putRow, mapBlock, Sort.ahead] using hk)]
      simp [putRow, mapBlock, Sort.ahead, Array.getElem?_modify, hne']
/-- What the sort leaves. -/
def Sorted (B : Nat) (v : Value) (S : List Rn) (w : World) (e : Ending) (w' : World) : Prop := e = .returned (.tuple #[]) ∧ ∃ S' : List Rn, S'.length = S.length ∧ (∀ r, r ∈ S' ↔ r ∈ S) ∧ S'.Pairwise Beg ∧ w'.ownsRow B 41 3 v S'.length (rv S') ∧ w.grownBy w' v.ownBlock
theorem sort_any (B cap : Nat) (A : Option Addr) (S : List Rn) (w : World) (h : w.ownsRow B 41 3 (.slice A S.length cap) S.length (rv S)) (hsz : S.length ≤ 1000000) :
    Calls Try.prog 29 #[.slice A S.length cap, .func (.func 30) #[] #[]] w (Sorted B (.slice A S.length cap) S w) := by
  cases hS : S with
  | nil =>
    rw [hS] at h
    have hc := Go.Proofs.AnyF.slices_SortFunc_none Try.sortRun A cap (.func (.func 30) #[] #[]) w
    refine hc.mono ?_
    rintro e w' ⟨rfl, rfl⟩
    exact ⟨rfl, [], rfl, fun _ => Iff.rfl, List.Pairwise.nil, h, gb_refl _ _⟩
  | cons r0 rs0 =>
    rw [← hS]
    obtain ⟨g, c', hv, hb, hlt⟩ : ∃ g cap', Value.slice A S.length cap = .slice (some ⟨g, 0, none⟩) S.length cap' ∧ B ≤ g ∧ g < w.heap.size := by
      rcases h.2 with ⟨_, h0⟩ | ⟨g, cap', cur, hv, hb, hg, _⟩
      · rw [hS] at h0; simp at h0
      · exact ⟨g, cap', hv, hb, (Array.getElem?_eq_some_iff.1 hg).1⟩
    obtain ⟨rfl, rfl⟩ : A = some ⟨g, 0, none⟩ ∧ cap = c' := by cases hv; exact ⟨rfl, rfl⟩
    have eg : ∀ args w, (callFunc 30 args).run Try.prog w = .ok (.enter 30 args) w := enters_of Try.func30 (by kernel_rfl) rfl
    have hc := Go.Proofs.AnyQ.slices_SortFunc Try.sortRun 3 Try.isAgg41 Try.sizeOf41 encR (fun _ => rfl) (fun x v hv => by simp [encR] at hv; rcases hv with rfl | rfl | rfl <;> rfl) byB byB_swo 30 #[] g 0 cap S.toArray w eg (byB_lays g 0 _ w) (holds_rv h rfl) hlt (by simp; omega)
    have hc2 : Calls Try.prog 29 #[.slice (some ⟨g, 0, none⟩) S.length cap, .func (.func 30) #[] #[]] w _ := hc
    refine hc2.mono ?_
    rintro e w' ⟨rfl, d', n, os, ⟨hp1, _, hp3⟩, hs, rfl⟩
    have hl : d'.toList.length = S.length := by simpa using hp1
    have hd : d' = d'.toList.toArray := by simp
    have hperm : d'.toList.Perm S := by
      have e1 : (d'.extract 0 S.toArray.size) = d' := by rw [← hp1]; exact Array.extract_size
      have e2 : (S.toArray.extract 0 S.toArray.size) = S.toArray := Array.extract_size
      rw [e1, e2] at hp3
      exact hp3
    rw [hd]
    obtain ⟨o1, o2⟩ := sorted_own (m := n) (os := os) (S' := d'.toList) h hl
    refine ⟨rfl, d'.toList, hl, fun r => hperm.mem_iff, ?_, by rw [hl]; exact o1, o2⟩
    rw [List.pairwise_iff_getElem]
    intro i j hi hj hij
    have h1 := hs i j (Nat.zero_le _) hij (by rw [← hp1]; simpa using hj)
    rw [getElem!_pos d' i (by simpa using hi), getElem!_pos d' j (by simpa using hj)] at h1
    simpa using beg_of h1
end Go.Proofs.Ytkibojoochlggaa.Dt
