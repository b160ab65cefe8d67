/- Bytes and dots in memory. -/
import Derived.Test.YtblndpfgfakdeaaDtMixC
import Derived.Test.YtblndpfgfakdeaaDtOf
namespace Go.Proofs.Ytblndpfgfakdeaa.Dt
open Go Go.RowKit Go.Proofs.Ytblndpfgfakdeaa.Mm

/-- The slice at A, of n bytes, reads as these. -/
def NL (w : World) (A : Option Addr) (n : Nat) (bs : List Int) : Prop :=
  bs.length = n ∧ (0 < n → ∃ g o, A = some ⟨g, o, none⟩ ∧ g < w.heap.size ∧ ∀ i x, bs[i]? = some x → w.cell? ⟨g, o + i, none⟩ = some (.int .u8 x)) ∧ ∀ x ∈ bs, 0 ≤ x ∧ x ≤ 255
theorem NL.keep {w w' : World} {A : Option Addr} {n : Nat} {bs : List Int} (h : NL w A n bs) (hg : w.grownBy w' none) : NL w' A n bs := by
  refine ⟨h.1, fun hn => ?_, h.2.2⟩
  obtain ⟨g, o, e, hl, hc⟩ := h.2.1 hn
  exact ⟨g, o, e, Nat.lt_of_lt_of_le hl hg.size, fun i x hx => (World.cell?_of_block (a := ⟨g, o + i, none⟩) (hg.block g hl (by simp))).trans (hc i x hx)⟩
theorem nl_of_row {w : World} {a : Option Addr} {len cap : Nat} {zs : List Int}
    (h : (a = none ∧ len = 0 ∧ cap = 0 ∧ zs = []) ∨ ∃ x, a = some x ∧ len ≤ cap ∧ cap ≤ maxLen ∧ zs.length = cap ∧ (∀ i, i < zs.length → w.cell? (x.add i) = some (.int .u8 (zs.getD i 0))) ∧ ∀ n ∈ zs, (Lit.int .u8 n).wf = true) :
    NL w a len (zs.take len) ∧ len ≤ 9223372036854775807 ∧ len ≤ cap := by
  rcases h with ⟨rfl, rfl, rfl, rfl⟩ | ⟨x, rfl, hl, hc, hz, hcell, hwf⟩
  · exact ⟨⟨rfl, fun h => absurd h (by omega), fun x hx => by simp at hx⟩, by omega, Nat.le_refl _⟩
  · refine ⟨⟨by rw [List.length_take]; omega, fun h0 => ?_, fun n hn => ?_⟩, by unfold maxLen at hc; omega, hl⟩
    · obtain ⟨b, o, sp⟩ := x
      have c0 := hcell 0 (by omega)
      cases sp with
      | some sp =>
        exfalso
        simp only [Addr.add, World.cell?] at c0
        split at c0 <;> simp at c0
      | none =>
        refine ⟨b, o, rfl, ?_, fun i x hx => ?_⟩
        · have := block_lt_of_cell c0
          simpa [Addr.add] using this
        · have hi : i < len := by have := (List.getElem?_eq_some_iff.1 hx).1; rw [List.length_take] at this; omega
          have ci := hcell i (by omega)
          have hadd : (⟨b, o, none⟩ : Addr).add i = ⟨b, o + i, none⟩ := by unfold Addr.add; split <;> simp_all
          rw [hadd] at ci
          rw [List.getElem?_take, if_pos hi] at hx
          rw [ci, List.getD_eq_getElem?_getD, hx]; rfl
    · have hv := hwf n (List.mem_of_mem_take hn)
      have h1 : IntKind.u8.min = 0 := by decide
      have h2 : IntKind.u8.max = 255 := by decide
      simp only [Lit.wf, h1, h2, Bool.and_eq_true, decide_eq_true_eq] at hv
      omega
/-- The dot of a number. -/
def dotN (b : Int) : Int × Int := (b % 4, 1 + b / 4 % 20)
def dotsN (bs : List Int) : List (Int × Int) := bs.map dotN
theorem dotN_ok (b : Int) : Ok ⟨(dotN b).1, (dotN b).2, (dotN b).2⟩ := by
  unfold dotN Ok
  refine ⟨?_, ?_, ?_, ?_, ?_⟩ <;> simp only [] <;> omega
/-- The cells of dots. -/
def dv (l : List (Int × Int)) : List Value := l.flatMap fun x => [.int .i64 x.1, .int .i64 x.2]
theorem dv_append (a b : List (Int × Int)) : dv (a ++ b) = dv a ++ dv b := by unfold dv; rw [List.flatMap_append]
theorem dv_len (l : List (Int × Int)) : (dv l).length = l.length * 2 := by
  induction l with
  | nil => rfl
  | cons r l ih => show ([Value.int .i64 r.1, .int .i64 r.2] ++ dv l).length = _; rw [List.length_append, ih, List.length_cons]; simp; omega
theorem dv_at (l : List (Int × Int)) (i : Nat) (x : Int × Int) (h : l[i]? = some x) : (dv l)[i * 2]? = some (.int .i64 x.1) ∧ (dv l)[i * 2 + 1]? = some (.int .i64 x.2) := by
  induction l generalizing i with
  | nil => simp at h
  | cons r l ih =>
    cases i with
    | zero =>
      obtain rfl : r = x := by simpa using h
      exact ⟨rfl, rfl⟩
    | succ i =>
      obtain ⟨h0, h1⟩ := ih i (by simpa using h)
      show ([Value.int .i64 r.1, .int .i64 r.2] ++ dv l)[_]? = _ ∧ ([Value.int .i64 r.1, .int .i64 r.2] ++ dv l)[_]? = _
      refine ⟨?_, ?_⟩
      · rw [List.getElem?_append_right (by simp; omega), show (i + 1) * 2 - [Value.int .i64 r.1, .int .i64 r.2].length = i * 2 by simp; omega]; exact h0
      · rw [List.getElem?_append_right (by simp; omega), show (i + 1) * 2 + 1 - [Value.int .i64 r.1, .int .i64 r.2].length = i * 2 + 1 by simp; omega]; exact h1
theorem own_dl {w : World} {B n : Nat} {t : TypeId} {v : Value} {l : List (Int × Int)} (h : w.ownsRow B t 2 v n (dv l)) (hn : l.length = n) : ∃ A c, v = .slice A n c ∧ DL w A n l ∧ n ≤ c := by
  have hcells := fun (g : Nat) (hg : v.ownBlock = some g) => World.ownsRow.cells h hg
  rcases h.2 with ⟨rfl, h0⟩ | ⟨g, cap, cur, rfl, hB, hg, hle, _⟩
  · exact ⟨none, 0, by rw [h0], ⟨hn, fun hp => absurd hp (by omega)⟩, by omega⟩
  · refine ⟨_, cap, rfl, ⟨hn, fun _ => ⟨g, 0, rfl, (Array.getElem?_eq_some_iff.1 hg).1, fun i x hx => ?_⟩⟩, hle⟩
    have hat : ∀ j u, (dv l)[j]? = some u → w.cell? ⟨g, 0 + j, none⟩ = some u := fun j u hu => by
      have := hcells g rfl j u hu
      have hadd : (⟨g, 0, none⟩ : Addr).add j = ⟨g, 0 + j, none⟩ := by unfold Addr.add; split <;> simp_all
      rwa [hadd] at this
    obtain ⟨r0, r1⟩ := dv_at l i x hx
    exact ⟨hat _ _ r0, hat _ _ r1⟩
theorem dot_inf : (Try.prog.info? 35).map (fun i => (i.zero, i.size, i.bytes)) = some (some (.agg #[.int .i64 0, .int .i64 0]), 2, 16) := by kernel_rfl
theorem ints2 (x y : Int) : ∀ u ∈ [Value.int .i64 x, .int .i64 y], u.oneCell' = true := by
  intro u hu
  simp only [List.mem_cons, List.not_mem_nil, or_false] at hu
  obtain rfl | rfl := hu <;> rfl
/-- What a call that answers dots leaves. -/
def Dots (l : List (Int × Int)) (w : World) (e : Ending) (w' : World) : Prop := ∃ A c, e = .returned (.slice A l.length c) ∧ DL w' A l.length l ∧ w.grownBy w' none
end Go.Proofs.Ytblndpfgfakdeaa.Dt
