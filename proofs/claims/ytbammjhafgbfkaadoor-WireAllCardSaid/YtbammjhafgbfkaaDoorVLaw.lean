/- What the laws of layer 4 need besides: plain laws on arguments and bytes. -/
import Derived.Test.YtbammjhafgbfkaaDoorVAwake
import Derived.SliceStrings
import Derived.IntWalk
namespace Go.Proofs.YtbammjhafgbfkaaDoor
open Go.RowKit Wd Mm Vw

theorem below_of {w w' : World} (h : w.grownBy w' none) : Below w.heap.size w w' := gb_below h (Nat.le_refl _)
theorem row_bytes {w : World} {g : Nat} {t : TypeId} {l : List UInt8} (h : Row w g t (l.map w8).toArray) : ∀ j (hj : j < l.length), w.cell? ((⟨g, 0, none⟩ : Addr).add j) = some (.int .u8 (l[j].toNat : Int)) := fun j hj => by
  have hadd : (⟨g, 0, none⟩ : Addr).add j = ⟨g, j, none⟩ := by unfold Addr.add; split <;> simp_all
  rw [hadd]
  exact h.at_ (by simp [hj, w8])
theorem u8_of {a : Int} (h : (Lit.int .u8 a).wf = true) : 0 ≤ a ∧ a ≤ 255 := by
  have h1 : IntKind.u8.min = 0 := by decide
  have h2 : IntKind.u8.max = 255 := by decide
  simp only [Lit.wf, h1, h2, Bool.and_eq_true, decide_eq_true_eq] at h
  exact h
theorem i64_of {a : Int} (h : (Lit.int .i64 a).wf = true) : -9223372036854775808 ≤ a ∧ a ≤ 9223372036854775807 := by
  have h1 : IntKind.i64.min = -9223372036854775808 := by decide
  have h2 : IntKind.i64.max = 9223372036854775807 := by decide
  simp only [Lit.wf, h1, h2, Bool.and_eq_true, decide_eq_true_eq] at h
  exact h
/-- A slice of texts that came in. -/
def IsStrs (w : World) (a : Option Addr) (len cap : Nat) (zs : List ByteArray) : Prop :=
  (a = none ∧ len = 0 ∧ cap = 0 ∧ zs = []) ∨
  ∃ x, a = some x ∧ len ≤ cap ∧ cap ≤ maxLen ∧ zs.length = cap ∧ (∀ i, i < zs.length → w.cell? (x.add i) = some (.string (zs.getD i ByteArray.empty))) ∧ ∀ s ∈ zs, s.size ≤ maxLen
/-- A slice of bytes that came in: its first byte's place, each byte. -/
def Held8 (w : World) (a : Option Addr) (len : Nat) : Prop := 0 < len → ∃ g o, a = some ⟨g, o, none⟩ ∧ g < w.heap.size ∧ ∀ i, i < len → ∃ b : Nat, b ≤ 255 ∧ w.cell? ⟨g, o + i, none⟩ = some (.int .u8 (b : Int))
theorem Held8.keep {w w' : World} {a : Option Addr} {n : Nat} (h : Held8 w a n) (hg : w.grownBy w' none) : Held8 w' a n := fun hn => by
  obtain ⟨g, o, e, hl, hc⟩ := h hn
  exact ⟨g, o, e, Nat.lt_of_lt_of_le hl hg.size, fun i hi => by
    have := hg.block g hl (by simp)
    rw [World.cell?_of_block (w := w) (a := ⟨g, o + i, none⟩) this]
    exact hc i hi⟩
theorem held8_of {w : World} {a : Option Addr} {len cap : Nat} {zs : List Int}
    (h : (a = none ∧ len = 0 ∧ cap = 0 ∧ zs = []) ∨ ∃ x, a = some x ∧ len ≤ cap ∧ cap ≤ maxLen ∧ zs.length = cap ∧ (∀ i, i < zs.length → w.cell? (x.add i) = some (.int .u8 (zs.getD i 0))) ∧ ∀ n ∈ zs, (Lit.int .u8 n).wf = true) :
    Held8 w a len := by
  rcases h with ⟨rfl, rfl, rfl, rfl⟩ | ⟨x, rfl, hl, hc, hz, hcell, hwf⟩
  · exact fun h => absurd h (by omega)
  · intro h0
    obtain ⟨b, o, sp⟩ := x
    have c0 := hcell 0 (by omega)
    cases sp with
    | some sp =>
      exfalso
      simp only [Addr.add, World.cell?] at c0
      split at c0 <;> simp at c0
    | none =>
      refine ⟨b, o, rfl, ?_, fun i hi => ?_⟩
      · have := block_lt_of_cell c0
        simpa [Addr.add] using this
      · have ci := hcell i (by omega)
        have hadd : (⟨b, o, none⟩ : Addr).add i = ⟨b, o + i, none⟩ := by unfold Addr.add; split <;> simp_all
        rw [hadd] at ci
        have hin : i < zs.length := by omega
        have hv := hwf (zs.getD i 0) (by rw [List.getD_eq_getElem?_getD, List.getElem?_eq_getElem hin]; exact List.getElem_mem hin)
        have hb : 0 ≤ zs.getD i 0 ∧ zs.getD i 0 ≤ 255 := by
          have h1 : IntKind.u8.min = 0 := by decide
          have h2 : IntKind.u8.max = 255 := by decide
          simp only [Lit.wf, h1, h2, Bool.and_eq_true, decide_eq_true_eq] at hv
          exact hv
        refine ⟨(zs.getD i 0).toNat, by omega, ?_⟩
        rw [ci, show (((zs.getD i 0).toNat : Nat) : Int) = zs.getD i 0 by omega]
/-- What is cut says nothing; what is longer says nothing. -/
theorem get_longer (x : Wr) (h : x.may = true) (hi : x.in64 = true) (t : List UInt8) (ht : t ≠ []) : get (x.enc ++ t) = none := by
  unfold get
  rw [rd_enc 6 x h hi t]
  cases t with
  | nil => exact absurd rfl ht
  | cons a r => rfl
theorem get_cut (x : Wr) (h : x.may = true) (hi : x.in64 = true) (q : Nat) (hq : q < x.enc.length) : get (x.enc.take q) = none := by
  cases hg : get (x.enc.take q) with
  | none => rfl
  | some y =>
    exfalso
    obtain ⟨h1, h2, h3⟩ := get_back hg
    have e : x.enc = y.enc ++ x.enc.drop q := by rw [← h1, List.take_append_drop]
    have a := rd_enc 6 x h hi []
    have b := rd_enc 6 y h2 h3 (x.enc.drop q)
    rw [List.append_nil, e] at a
    rw [← e] at a b
    rw [a] at b
    simp only [Option.some.injEq, Prod.mk.injEq] at b
    have := congrArg List.length b.2
    rw [List.length_drop] at this
    simp at this
    omega
theorem num_may (n : Int) : (num n).may = true := by
  unfold num Wr.may; rw [fit_mk]; rfl
theorem num_in (n : Int) (h : -9223372036854775808 ≤ n ∧ n ≤ 9223372036854775807) : (num n).in64 = true := by
  unfold num; rw [in64_mk, allIn_nil, decide_eq_true h.1, decide_eq_true h.2]; rfl
theorem num_len (n : Int) : (num n).enc.length = 9 := by
  unfold num; rw [enc_mk, if_pos rfl, List.length_cons, highs_len]
theorem txt_may (s : ByteArray) (h : s.size ≤ 1048576) : (txt s).may = true := by
  unfold txt Wr.may; rw [fit_mk, if_neg (by decide), if_pos rfl, decide_eq_true h]; rfl
theorem txt_in (s : ByteArray) : (txt s).in64 = true := by
  unfold txt; rw [in64_mk, allIn_nil]; rfl
theorem txt_len (s : ByteArray) : (txt s).enc.length = s.size + 5 := by
  unfold txt; rw [enc_mk, if_neg (by decide), if_pos rfl, List.length_cons, List.length_append, highs_len]; simp; omega
theorem size_of_bytes {x : Wr} (h : x.may = true) : x.bytes.size = x.enc.length := by
  rw [← bytes_len x h]; simp
/-- A block that was there, behind whatever is made. -/
theorem row_kept {w w' : World} {g : Nat} {o : Obj} (h : w.heap[g]? = some o) (hg : w.grownBy w' none) : w'.heap[g]? = some o := (hg.block g (Array.getElem?_eq_some_iff.1 h).1 (by simp)).trans h
end Go.Proofs.YtbammjhafgbfkaaDoor
