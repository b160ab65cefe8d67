/- What a statement's arguments hold (texts, bytes): plain laws. -/
import Derived.Test.YtalobkggpdniaaaDoorSAwake
import Derived.Test.YtalobkggpdniaaaDoorTold
import Derived.SliceStrings
import Derived.Laws.AppendOwn
namespace Go.Proofs.YtalobkggpdniaaaDoor
open Go.RowKit Wd Mm

/-- A slice of texts that came in. -/
def IsStrs (w : World) (a : Option Addr) (len cap : Nat) (zs : List ByteArray) : Prop :=
  (a = none ∧ len = 0 ∧ cap = 0 ∧ zs = []) ∨
  ∃ x, a = some x ∧ len ≤ cap ∧ cap ≤ maxLen ∧ zs.length = cap ∧ (∀ i, i < zs.length → w.cell? (x.add i) = some (.string (zs.getD i ByteArray.empty))) ∧ ∀ s ∈ zs, s.size ≤ maxLen
theorem strs_of {w : World} {a : Option Addr} {len cap : Nat} {zs : List ByteArray} (h : IsStrs w a len cap zs) :
    Strs w a len (zs.take len) ∧ len ≤ 9223372036854775807 ∧ ∀ i, i < len → ((zs.take len).getD i ByteArray.empty).size ≤ 9223372036854775807 := by
  rcases h with ⟨rfl, rfl, rfl, rfl⟩ | ⟨x, rfl, hl, hc, hz, hcell, hwf⟩
  · exact ⟨⟨rfl, fun h => absurd h (by omega)⟩, by omega, fun i hi => absurd hi (by omega)⟩
  · unfold maxLen at hc hwf
    have hget : ∀ i, i < len → (zs.take len).getD i ByteArray.empty = zs.getD i ByteArray.empty := fun i hi => by
      simp only [List.getD_eq_getElem?_getD, List.getElem?_take, if_pos hi]
    refine ⟨⟨by rw [List.length_take]; omega, fun h0 => ?_⟩, by omega, fun i hi => ?_⟩
    · obtain ⟨b, o, sp⟩ := x
      have c0 := hcell 0 (by omega)
      cases sp with
      | some sp =>
        exfalso
        simp only [Addr.add, World.cell?] at c0
        split at c0 <;> simp at c0
      | none =>
        refine ⟨b, o, rfl, ?_, fun i hi => ?_⟩
        · have := block_lt_of_cell c0
          simpa [Addr.add] using this
        · have ci := hcell i (by omega)
          have hadd : (⟨b, o, none⟩ : Addr).add i = ⟨b, o + i, none⟩ := by unfold Addr.add; split <;> simp_all
          rw [hadd] at ci
          rw [hget i hi]; exact ci
    · rw [hget i hi]
      exact hwf _ (by rw [List.getD_eq_getElem?_getD, List.getElem?_eq_getElem (by omega)]; exact List.getElem_mem _)
/-- A slice of bytes that came in: its first byte's place, each byte. -/
def Held8 (w : World) (a : Option Addr) (len : Nat) : Prop := 0 < len → ∃ g o, a = some ⟨g, o, none⟩ ∧ g < w.heap.size ∧ ∀ i, i < len → ∃ b : Nat, b ≤ 255 ∧ w.cell? ⟨g, o + i, none⟩ = some (.int .u8 (b : Int))
theorem Held8.keep {w w' : World} {a : Option Addr} {n : Nat} (h : Held8 w a n) (hg : w.grownBy w' none) : Held8 w' a n := fun hn => by
  obtain ⟨g, o, e, hl, hc⟩ := h hn
  exact ⟨g, o, e, Nat.lt_of_lt_of_le hl hg.size, fun i hi => by
    have := hg.block g hl (by simp)
    rw [World.cell?_of_block (w := w) (a := ⟨g, o + i, none⟩) this]
    exact hc i hi⟩
theorem held8_of {w : World} {a : Option Addr} {len cap : Nat} {zs : List Int}
    (h : (a = none ∧ len = 0 ∧ cap = 0 ∧ zs = []) ∨ ∃ x, a = some x ∧ len ≤ cap ∧ cap ≤ maxLen ∧ zs.length = cap ∧ (∀ i, i < zs.length → w.cell? (x.add i) = some (.int .u8 (zs.getD i 0))) ∧ ∀ n ∈ zs, (Lit.int .u8 n).wf = true) :
    Held8 w a len := by
  rcases h with ⟨rfl, rfl, rfl, rfl⟩ | ⟨x, rfl, hl, hc, hz, hcell, hwf⟩
  · exact fun h => absurd h (by omega)
  · intro h0
    obtain ⟨b, o, sp⟩ := x
    have c0 := hcell 0 (by omega)
    cases sp with
    | some sp =>
      exfalso
      simp only [Addr.add, World.cell?] at c0
      split at c0 <;> simp at c0
    | none =>
      refine ⟨b, o, rfl, ?_, fun i hi => ?_⟩
      · have := block_lt_of_cell c0
        simpa [Addr.add] using this
      · have ci := hcell i (by omega)
        have hadd : (⟨b, o, none⟩ : Addr).add i = ⟨b, o + i, none⟩ := by unfold Addr.add; split <;> simp_all
        rw [hadd] at ci
        have hin : i < zs.length := by omega
        have hv := hwf (zs.getD i 0) (by rw [List.getD_eq_getElem?_getD, List.getElem?_eq_getElem hin]; exact List.getElem_mem hin)
        have hb : 0 ≤ zs.getD i 0 ∧ zs.getD i 0 ≤ 255 := by
          have h1 : IntKind.u8.min = 0 := by decide
          have h2 : IntKind.u8.max = 255 := by decide
          simp only [Lit.wf, h1, h2, Bool.and_eq_true, decide_eq_true_eq] at hv
          exact hv
        refine ⟨(zs.getD i 0).toNat, by omega, ?_⟩
        rw [ci, show (((zs.getD i 0).toNat : Nat) : Int) = zs.getD i 0 by omega]
/-- A row of texts of the call's own, as a slice of texts. -/
theorem strs_own {w : World} {base : Nat} {e : TypeId} {v : Value} {os : List ByteArray} (h : w.ownsRow base e 1 v os.length (os.map Value.string)) : ∃ A c, v = .slice A os.length c ∧ Strs w A os.length os := by
  rcases h.2 with ⟨rfl, h0⟩ | ⟨g, cap, cur, rfl, _, hh, _, _, hs, ht⟩
  · exact ⟨none, 0, by rw [h0], rfl, fun hn => absurd hn (by omega)⟩
  · refine ⟨_, _, rfl, rfl, fun hn => ⟨g, 0, rfl, (Array.getElem?_eq_some_iff.1 hh).1, fun i hi => ?_⟩⟩
    have hadd : (⟨g, 0, none⟩ : Addr).add i = ⟨g, 0 + i, none⟩ := by unfold Addr.add; split <;> simp_all
    rw [← hadd]
    exact h.cells (g := g) rfl i _ (by simp [hi])
theorem str_info : (Tryd.prog.info? 9).map (fun i => (i.zero, i.size, i.bytes)) = some (some (.string ⟨#[]⟩), 1, 16) := by kernel_rfl
theorem catB_append (a b : List ByteArray) : catB (a ++ b) = catB a ++ catB b := by simp [catB]
theorem catB_one (s : ByteArray) : catB [s] = s.data.toList := by simp [catB]
theorem strs_one (w : World) (p : ByteArray) : Strs (w.alloc (.cells #[.string p] 9)) (some ⟨w.heap.size, 0, none⟩) 1 [p] := by
  refine ⟨rfl, fun _ => ⟨w.heap.size, 0, rfl, by simp, fun i hi => ?_⟩⟩
  obtain rfl : i = 0 := by omega
  exact cell_of_row _ _ 0 #[.string p] 9 (0, 0) (heap_alloc_new _ _)
theorem one_small (p : ByteArray) (h : p.size ≤ 9223372036854775807) : ∀ j, j < 1 → ([p].getD j ByteArray.empty).size ≤ 9223372036854775807 := fun j hj => by
  obtain rfl : j = 0 := by omega
  exact h
end Go.Proofs.YtalobkggpdniaaaDoor
