/- What a statement's arguments hold; what its calls leave. -/
import Derived.Test.YtkeincmmcdcggaaAwake
namespace Go.Proofs.Ytkeincmmcdcggaa
open Go.RowKit Wd Mm

def bytesOf (zs : List Int) (len : Nat) : List UInt8 := (zs.take len).map fun n => UInt8.ofNat n.toNat
theorem holds_of_row {w : World} {a : Option Addr} {len cap : Nat} {zs : List Int}
    (h : (a = none ∧ len = 0 ∧ cap = 0 ∧ zs = []) ∨ ∃ x, a = some x ∧ len ≤ cap ∧ cap ≤ maxLen ∧ zs.length = cap ∧ (∀ i, i < zs.length → w.cell? (x.add i) = some (.int .u8 (zs.getD i 0))) ∧ ∀ n ∈ zs, (Lit.int .u8 n).wf = true) :
    Holds w a len (bytesOf zs len) ∧ len ≤ 9223372036854775807 ∧ len ≤ cap := by
  rcases h with ⟨rfl, rfl, rfl, rfl⟩ | ⟨x, rfl, hl, hc, hz, hcell, hwf⟩
  · exact ⟨⟨rfl, fun h => absurd h (by omega)⟩, by omega, Nat.le_refl _⟩
  · refine ⟨⟨?_, fun h0 => ?_⟩, by unfold maxLen at hc; omega, hl⟩
    · simp [bytesOf]; omega
    · obtain ⟨b, o, sp⟩ := x
      have c0 := hcell 0 (by omega)
      cases sp with
      | some sp =>
        exfalso
        simp only [Addr.add, World.cell?] at c0
        split at c0 <;> simp at c0
      | none =>
        refine ⟨b, o, rfl, ?_, fun i hi => ?_⟩
        · have := block_lt_of_cell c0
          simpa [Addr.add] using this
        · have ci := hcell i (by omega)
          have hadd : (⟨b, o, none⟩ : Addr).add i = ⟨b, o + i, none⟩ := by unfold Addr.add; split <;> simp_all
          rw [hadd] at ci
          rw [ci]
          have hin : i < zs.length := by omega
          have hv := hwf (zs.getD i 0) (by rw [List.getD_eq_getElem?_getD, List.getElem?_eq_getElem hin]; exact List.getElem_mem hin)
          have hb : 0 ≤ zs.getD i 0 ∧ zs.getD i 0 < 256 := by
            have h1 : IntKind.u8.min = 0 := by decide
            have h2 : IntKind.u8.max = 255 := by decide
            simp only [Lit.wf, h1, h2, Bool.and_eq_true, decide_eq_true_eq] at hv
            omega
          have e : (bytesOf zs len).getD i 0 = UInt8.ofNat (zs.getD i 0).toNat := by
            simp [bytesOf, hi, hin]
          rw [e]
          unfold w8
          rw [UInt8.toNat_ofNat']
          congr 2
          omega
theorem Told.keep {B : Nat} {w w' : World} {v : Value} {l : List UInt8} (h : Told B w v l) (hg : w.grownBy w' none) : Told B w' v l := by
  rcases h with h | ⟨hn, g, hv, hB, hr⟩
  · exact .inl h
  · exact .inr ⟨hn, g, hv, hB, hr.kept hg (by simp)⟩
theorem ba (l : List UInt8) : (⟨l.toArray⟩ : ByteArray).data.toList = l := by simp
/-- A slice that was told, as a string, now and later. -/
theorem told_string {B : Nat} {w : World} {v : Value} {l : List UInt8} (h : Told B w v l) (W : World) (hg : w.grownBy W none) : (convert 25 9 v).run Try.prog W = .ok (.string ⟨l.toArray⟩) W := by
  rcases h.keep hg with ⟨rfl, rfl⟩ | ⟨_, g, rfl, _, hr⟩
  · exact run_convert_bytes_nil W 25 5 Try.underlying25 Try.underlying5 0 0 9 Try.underlying9
  · exact run_convert_bytes_back W 25 9 5 ⟨g, 0, none⟩ l.length l Try.underlying25 Try.underlying5 Try.underlying9 (row_bytes hr)
/-- A slice that came in, as a string, now and later. -/
theorem held_string {w : World} {A : Option Addr} {n c : Nat} {bs : List UInt8} (h : Holds w A n bs) (W : World) (hg : w.grownBy W none) : (convert 25 9 (.slice A n c)).run Try.prog W = .ok (.string ⟨bs.toArray⟩) W := by
  by_cases h0 : n = 0
  · subst h0
    obtain rfl : bs = [] := List.eq_nil_of_length_eq_zero h.1
    cases A with
    | none => exact run_convert_bytes_nil W 25 5 Try.underlying25 Try.underlying5 0 c 9 Try.underlying9
    | some a => exact run_convert_bytes_back W 25 9 5 a c [] Try.underlying25 Try.underlying5 Try.underlying9 (fun j hj => absurd hj (by simp))
  · obtain ⟨g, o, rfl, _, hc⟩ := (h.keep hg).2 (by omega)
    have h1 := h.1
    have r := run_convert_bytes_back (P := Try.prog) W 25 9 5 ⟨g, o, none⟩ c bs Try.underlying25 Try.underlying5 Try.underlying9 (fun j hj => by
      have hadd : (⟨g, o, none⟩ : Addr).add j = ⟨g, o + j, none⟩ := by unfold Addr.add; split <;> simp_all
      rw [hadd, hc j (by omega)]
      simp [hj, w8])
    rw [h1] at r
    exact r
theorem gb_drew_eq (a w : World) (r : Option Nat) : a.grownBy w.drew r = a.grownBy w r := propext ⟨fun h => ⟨h.os, h.tape, h.output, h.size, h.block⟩, fun h => gb_drew h⟩
theorem gb_undrew {a w : World} {r : Option Nat} (h : a.drew.grownBy w r) : a.grownBy w r := ⟨h.os, h.tape, h.output, h.size, h.block⟩
theorem below_of {w w' : World} (h : w.grownBy w' none) : Below w.heap.size w w' := gb_below h (Nat.le_refl _)
end Go.Proofs.Ytkeincmmcdcggaa
