/- The reader: text, list, wire. The reader: wire. The reader at bytes of any form; whole, Get. The document's example, which every statement of layer 4 asks. What the laws of layer 4 need besides: plain laws on arguments and bytes. A row of wires that the call appends to; texts and bytes that came in. deaddroplaw4.Make: some wire, in new memory. -/
import Derived.Test.YtaecfcodldbnhaaVB
import Derived.Test.YtaecfcodldbnhaaVC
import Derived.SliceStrings
import Derived.IntWalk
import Derived.Laws.AppendOwn
import Derived.Outline
import Derived.Maps.AppendAt
namespace Go.Proofs.Ytaecfcodldbnhaa
open Go.RowKit Wd Mm Vw

theorem four_nat (t : List UInt8) : valI (t.take 4) = (beN (t.take 4) : Int) := valI_four _ (by simp; omega)

/-- A longer list's first wires. -/
theorem Part.snoc {w : World} {g n k : Nat} {l : List Wr} (h : Part w g l n k) (x : Wr) (hk : l.length = k) : Part w g (l ++ [x]) n k := by
  obtain ⟨cs, L, hr, hs, hi⟩ := h
  refine ⟨cs, L, hr, hs, fun i y hik hy => hi i y hik ?_⟩
  rw [List.getElem?_append_left (by omega)] at hy
  exact hy
/-- Whatever the reader does. -/
theorem Part.read {w w' : World} {g n k r : Nat} {l : List Wr} (h : Part w g l n k) (hg : w.grownBy w' (some r)) (hr : r < g) : Part w' g l n k := by
  obtain ⟨cs, L, hrow, hs, hi⟩ := h
  refine ⟨cs, L, hrow.kept hg (fun e => by have := Option.some.inj e; omega), hs, fun i x hik hx => ?_⟩
  obtain ⟨h0, h1, h2, h3, h4⟩ := hi i x hik hx
  exact ⟨h0, h1, h2, h3, h4.grown hg (fun j e => by cases e; omega)⟩
end Go.Proofs.Ytaecfcodldbnhaa

namespace Go.Proofs.Ytaecfcodldbnhaa
open Go.RowKit Wd Mm Vw

/-! ### wire -/
/-- The reader's block beside those that wire itself makes. -/
theorem gb_some {a w w' : World} {r g : Nat} {i : Nat} {v : Value} (h : a.grownBy w (some r)) (hg : a.heap.size ≤ g) (hw : w' = w.setCell ⟨g, i, none⟩ v) : a.grownBy w' (some r) := by
  subst hw
  exact gb_step h (gb_set1 _ _ _ _) (fun j e => .inr (by cases e; exact hg))
theorem gb_some4 {a w : World} {r g : Nat} {i0 i1 i2 i3 : Nat} {v0 v1 v2 v3 : Value} (h : a.grownBy w (some r)) (hg : a.heap.size ≤ g) : a.grownBy ((((w.setCell ⟨g, i0, none⟩ v0).setCell ⟨g, i1, none⟩ v1).setCell ⟨g, i2, none⟩ v2).setCell ⟨g, i3, none⟩ v3) (some r) :=
  gb_some (gb_some (gb_some (gb_some h hg rfl) hg rfl) hg rfl) hg rfl
/-- A fresh wire's block. -/
def zeroW : Array Value := #[.int .i64 0, .int .i64 0, .string ⟨#[]⟩, .slice none 0 0]
/-- A block that is not the reader's. -/
theorem box_read {w w2 : World} {r g : Nat} {cs : Array Value} {T : TypeId} (h : w.heap[g]? = some (.cells cs T (0, 0))) (hg : w.grownBy w2 (some r)) (hne : g ≠ r) : w2.heap[g]? = some (.cells cs T (0, 0)) :=
  (hg.block g (Array.getElem?_eq_some_iff.1 h).1 (fun e => hne (Option.some.inj e))).trans h
theorem set4_row {w : World} {g : Nat} {x0 x1 x2 x3 : Value} {T : TypeId} (h : w.heap[g]? = some (.cells #[x0, x1, x2, x3] T (0, 0))) (v0 v1 v2 v3 : Value) :
    ((((w.setCell ⟨g, 0, none⟩ v0).setCell ⟨g, 1, none⟩ v1).setCell ⟨g, 2, none⟩ v2).setCell ⟨g, 3, none⟩ v3).heap[g]? = some (.cells #[v0, v1, v2, v3] T (0, 0)) :=
  heap_setCell_same _ g 3 _ _ _ (heap_setCell_same _ g 2 _ _ _ (heap_setCell_same _ g 1 _ _ _ (heap_setCell_same w g 0 _ _ _ h)))
section
variable {w w3 : World} {b4 b8 i r : Nat} {v a0 a1 a2 a3 x0 x1 x2 x3 : Value} {T : TypeId}
theorem fill_row (h : w3.heap[b4]? = some (.cells #[x0, x1, x2, x3] T (0, 0))) (hne : b4 ≠ b8) (v a0 a1 a2 a3 : Value) (i : Nat) : (((((w3.setCell ⟨b8, i, none⟩ v).setCell ⟨b4, 0, none⟩ a0).setCell ⟨b4, 1, none⟩ a1).setCell ⟨b4, 2, none⟩ a2).setCell ⟨b4, 3, none⟩ a3).heap[b4]? = some (.cells #[a0, a1, a2, a3] T (0, 0)) :=
  set4_row ((heap_setCell_other w3 _ _ _ hne).trans h) a0 a1 a2 a3
theorem fill_gb (hg : w.grownBy w3 (some r)) (h8 : w.heap.size ≤ b8) : w.grownBy (((((w3.setCell ⟨b8, i, none⟩ v).setCell ⟨w.heap.size, 0, none⟩ a0).setCell ⟨w.heap.size, 1, none⟩ a1).setCell ⟨w.heap.size, 2, none⟩ a2).setCell ⟨w.heap.size, 3, none⟩ a3) (some r) :=
  gb_some4 (gb_some hg h8 rfl) (Nat.le_refl _)
theorem fill_hl {B : Nat} {sl : Value} {l : List Wr} (h : HL w3 B sl l) (h8 : b8 < B) (h4 : b4 < B) : HL (((((w3.setCell ⟨b8, i, none⟩ v).setCell ⟨b4, 0, none⟩ a0).setCell ⟨b4, 1, none⟩ a1).setCell ⟨b4, 2, none⟩ a2).setCell ⟨b4, 3, none⟩ a3) B sl l := by
  refine h.keep (by simp [World.setCell]) (fun g hB _ => ?_)
  rw [heap_setCell_other _ _ _ _ (by simp only [ne_eq]; omega), heap_setCell_other _ _ _ _ (by simp only [ne_eq]; omega), heap_setCell_other _ _ _ _ (by simp only [ne_eq]; omega), heap_setCell_other _ _ _ _ (by simp only [ne_eq]; omega), heap_setCell_other _ _ _ _ (by simp only [ne_eq]; omega)]
end
end Go.Proofs.Ytaecfcodldbnhaa

namespace Go.Proofs.Ytaecfcodldbnhaa
open Go.RowKit Wd Mm Vw

/-- What all of the bytes say. -/
def get (s : List UInt8) : Option Wr := match rd 6 s with
  | some (x, []) => some x
  | _ => none
/-- whole: a wire; or an error. -/
def WholeGot (x : Wr) (w : World) (e : Ending) (w' : World) : Prop := ∃ A c, e = .returned (.tuple #[.agg #[.int .i64 x.k, .int .i64 x.n, .string x.s, .slice A x.l.length c], .nilIface]) ∧ HL w' w.heap.size (.slice A x.l.length c) x.l ∧ w.grownBy w' none
/-- Get: a wire; or none. -/
def GetGot (x : Wr) (w : World) (e : Ending) (w' : World) : Prop := ∃ A c, e = .returned (.tuple #[.agg #[.int .i64 x.k, .int .i64 x.n, .string x.s, .slice A x.l.length c], .bool true]) ∧ HL w' w.heap.size (.slice A x.l.length c) x.l ∧ w.grownBy w' none
def GetNone (w : World) (e : Ending) (w' : World) : Prop := e = .returned (.tuple #[.agg #[.int .i64 0, .int .i64 0, .string ⟨#[]⟩, .slice none 0 0], .bool false]) ∧ w.grownBy w' none
end Go.Proofs.Ytaecfcodldbnhaa

namespace Go.Proofs.Ytaecfcodldbnhaa
open Go.RowKit Wd Mm Vw

def num (n : Int) : Wr := .mk 1 n ⟨#[]⟩ []
def txt (s : ByteArray) : Wr := .mk 2 0 s []
def lst (l : List Wr) : Wr := .mk 3 0 ⟨#[]⟩ l
/-- Get of Put is the same. -/
theorem get_enc (x : Wr) (h : x.may = true) (hi : x.in64 = true) : get x.enc = some x := by
  have := rd_enc 6 x h hi []
  rw [List.append_nil] at this
  unfold get
  rw [this]
theorem get_bytes (x : Wr) (h : x.may = true) (hi : x.in64 = true) : get x.bytes.data.toList = some x := by
  unfold Wr.bytes
  rw [if_pos h]
  exact get_enc x h hi
/-- What is told has just these bytes, and may be. -/
theorem get_back {s : List UInt8} {x : Wr} (h : get s = some x) : s = x.enc ∧ x.may = true ∧ x.in64 = true := by
  unfold get at h
  cases hr : rd 6 s with
  | none => rw [hr] at h; cases h
  | some p =>
    obtain ⟨y, t⟩ := p
    rw [hr] at h
    cases t with
    | cons a t => cases h
    | nil =>
      cases h
      have := rd_back 6 s x [] hr
      rw [List.append_nil] at this
      exact this
theorem bytes_len (x : Wr) (h : x.may = true) : x.bytes.data.toList = x.enc := by
  unfold Wr.bytes; rw [if_pos h]
/-- A row that was just laid, of wires without lists. -/
theorem HL.laid {w : World} {g : Nat} {T : TypeId} {cs : Array Value} {B : Nat} (l : List Wr) (h : w.heap[g]? = some (.cells cs T (0, 0))) (hB : B ≤ g) (hn : l.length ≤ 1099511627776) (c : Nat)
    (hc : ∀ i x, l[i]? = some x → cs[i * 4]? = some (.int .i64 x.k) ∧ cs[i * 4 + 1]? = some (.int .i64 x.n) ∧ cs[i * 4 + 2]? = some (.string x.s) ∧ ∃ A m d, cs[i * 4 + 3]? = some (.slice A m d) ∧ HL w B (.slice A m d) x.l) : HL w B (.slice (some ⟨g, 0, none⟩) l.length c) l := by
  have hrow : Row w g T cs := h
  refine .row g 0 c l (fun i => match cs[i * 4 + 3]? with | some v => v | none => .nilIface) hB hrow.lt hn ?_ ?_ ?_ ?_ ?_
  · intro i x hx; rw [Nat.zero_add, hrow.get]; exact (hc i x hx).1
  · intro i x hx; rw [Nat.zero_add, hrow.get]; exact (hc i x hx).2.1
  · intro i x hx; rw [Nat.zero_add, hrow.get]; exact (hc i x hx).2.2.1
  · intro i x hx
    obtain ⟨A, m, d, h3, _⟩ := (hc i x hx).2.2.2
    simp only [Nat.zero_add, hrow.get, h3]
  · intro i x hx
    obtain ⟨A, m, d, h3, h4⟩ := (hc i x hx).2.2.2
    simp only [h3]
    exact h4
def exW : Wr := lst [txt ⟨#[97]⟩, num (-2)]
theorem exW_may : exW.may = true := by decide
theorem exW_in : exW.in64 = true := by decide
theorem exW_len : exW.enc.length = 20 := by decide
theorem one_may : (num 1).may = true := by decide
theorem one_bytes : (num 1).bytes = ⟨#[1, 0, 0, 0, 0, 0, 0, 0, 1]⟩ := by decide
theorem num_HL (w : World) (B : Nat) (A : Option Addr) (c : Nat) (n : Int) : HL w B (.slice A 0 c) (num n).l := .nil A c
theorem txt_HL (w : World) (B : Nat) (A : Option Addr) (c : Nat) (s : ByteArray) : HL w B (.slice A 0 c) (txt s).l := .nil A c
def exCells : Array Value := #[.int .i64 2, .int .i64 0, .string ⟨#[97]⟩, .slice none 0 0, .int .i64 1, .int .i64 (-2), .string ⟨#[]⟩, .slice none 0 0]
theorem ex_HL (w : World) (g : Nat) (h : w.heap[g]? = some (.cells exCells 54 (0, 0))) : HL w 0 (.slice (some ⟨g, 0, none⟩) 2 2) exW.l := by
  refine HL.laid [txt ⟨#[97]⟩, num (-2)] h (Nat.zero_le _) (by decide) 2 ?_
  intro i x hx
  match i, hx with
  | 0, hx =>
    cases hx
    exact ⟨rfl, rfl, rfl, none, 0, 0, rfl, .nil _ _⟩
  | 1, hx =>
    cases hx
    exact ⟨rfl, rfl, rfl, none, 0, 0, rfl, .nil _ _⟩
end Go.Proofs.Ytaecfcodldbnhaa

namespace Go.Proofs.Ytaecfcodldbnhaa
open Go.RowKit Wd Mm Vw

theorem below_of {w w' : World} (h : w.grownBy w' none) : Below w.heap.size w w' := gb_below h (Nat.le_refl _)
theorem row_bytes {w : World} {g : Nat} {t : TypeId} {l : List UInt8} (h : Row w g t (l.map w8).toArray) : ∀ j (hj : j < l.length), w.cell? ((⟨g, 0, none⟩ : Addr).add j) = some (.int .u8 (l[j].toNat : Int)) := fun j hj => by
  have hadd : (⟨g, 0, none⟩ : Addr).add j = ⟨g, j, none⟩ := by unfold Addr.add; split <;> simp_all
  rw [hadd]
  exact h.at_ (by simp [hj, w8])
theorem u8_of {a : Int} (h : (Lit.int .u8 a).wf = true) : 0 ≤ a ∧ a ≤ 255 := by
  have h1 : IntKind.u8.min = 0 := by decide
  have h2 : IntKind.u8.max = 255 := by decide
  simp only [Lit.wf, h1, h2, Bool.and_eq_true, decide_eq_true_eq] at h
  exact h
theorem i64_of {a : Int} (h : (Lit.int .i64 a).wf = true) : -9223372036854775808 ≤ a ∧ a ≤ 9223372036854775807 := by
  have h1 : IntKind.i64.min = -9223372036854775808 := by decide
  have h2 : IntKind.i64.max = 9223372036854775807 := by decide
  simp only [Lit.wf, h1, h2, Bool.and_eq_true, decide_eq_true_eq] at h
  exact h
/-- A slice of texts that came in. -/
def IsStrs (w : World) (a : Option Addr) (len cap : Nat) (zs : List ByteArray) : Prop :=
  (a = none ∧ len = 0 ∧ cap = 0 ∧ zs = []) ∨
  ∃ x, a = some x ∧ len ≤ cap ∧ cap ≤ maxLen ∧ zs.length = cap ∧ (∀ i, i < zs.length → w.cell? (x.add i) = some (.string (zs.getD i ByteArray.empty))) ∧ ∀ s ∈ zs, s.size ≤ maxLen
/-- A slice of bytes that came in: its first byte's place, each byte. -/
def Held8 (w : World) (a : Option Addr) (len : Nat) : Prop := 0 < len → ∃ g o, a = some ⟨g, o, none⟩ ∧ g < w.heap.size ∧ ∀ i, i < len → ∃ b : Nat, b ≤ 255 ∧ w.cell? ⟨g, o + i, none⟩ = some (.int .u8 (b : Int))
theorem Held8.keep {w w' : World} {a : Option Addr} {n : Nat} (h : Held8 w a n) (hg : w.grownBy w' none) : Held8 w' a n := fun hn => by
  obtain ⟨g, o, e, hl, hc⟩ := h hn
  exact ⟨g, o, e, Nat.lt_of_lt_of_le hl hg.size, fun i hi => by
    have := hg.block g hl (by simp)
    rw [World.cell?_of_block (w := w) (a := ⟨g, o + i, none⟩) this]
    exact hc i hi⟩
theorem held8_of {w : World} {a : Option Addr} {len cap : Nat} {zs : List Int}
    (h : (a = none ∧ len = 0 ∧ cap = 0 ∧ zs = []) ∨ ∃ x, a = some x ∧ len ≤ cap ∧ cap ≤ maxLen ∧ zs.length = cap ∧ (∀ i, i < zs.length → w.cell? (x.add i) = some (.int .u8 (zs.getD i 0))) ∧ ∀ n ∈ zs, (Lit.int .u8 n).wf = true) :
    Held8 w a len := by
  rcases h with ⟨rfl, rfl, rfl, rfl⟩ | ⟨x, rfl, hl, hc, hz, hcell, hwf⟩
  · exact fun h => absurd h (by omega)
  · intro h0
    obtain ⟨b, o, sp⟩ := x
    have c0 := hcell 0 (by omega)
    cases sp with
    | some sp =>
      exfalso
      simp only [Addr.add, World.cell?] at c0
      split at c0 <;> simp at c0
    | none =>
      refine ⟨b, o, rfl, ?_, fun i hi => ?_⟩
      · have := block_lt_of_cell c0
        simpa [Addr.add] using this
      · have ci := hcell i (by omega)
        have hadd : (⟨b, o, none⟩ : Addr).add i = ⟨b, o + i, none⟩ := by unfold Addr.add; split <;> simp_all
        rw [hadd] at ci
        have hin : i < zs.length := by omega
        have hv := hwf (zs.getD i 0) (by rw [List.getD_eq_getElem?_getD, List.getElem?_eq_getElem hin]; exact List.getElem_mem hin)
        have hb : 0 ≤ zs.getD i 0 ∧ zs.getD i 0 ≤ 255 := by
          have h1 : IntKind.u8.min = 0 := by decide
          have h2 : IntKind.u8.max = 255 := by decide
          simp only [Lit.wf, h1, h2, Bool.and_eq_true, decide_eq_true_eq] at hv
          exact hv
        refine ⟨(zs.getD i 0).toNat, by omega, ?_⟩
        rw [ci, show (((zs.getD i 0).toNat : Nat) : Int) = zs.getD i 0 by omega]
/-- What is cut says nothing; what is longer says nothing. -/
theorem get_longer (x : Wr) (h : x.may = true) (hi : x.in64 = true) (t : List UInt8) (ht : t ≠ []) : get (x.enc ++ t) = none := by
  unfold get
  rw [rd_enc 6 x h hi t]
  cases t with
  | nil => exact absurd rfl ht
  | cons a r => rfl
theorem get_cut (x : Wr) (h : x.may = true) (hi : x.in64 = true) (q : Nat) (hq : q < x.enc.length) : get (x.enc.take q) = none := by
  cases hg : get (x.enc.take q) with
  | none => rfl
  | some y =>
    exfalso
    obtain ⟨h1, h2, h3⟩ := get_back hg
    have e : x.enc = y.enc ++ x.enc.drop q := by rw [← h1, List.take_append_drop]
    have a := rd_enc 6 x h hi []
    have b := rd_enc 6 y h2 h3 (x.enc.drop q)
    rw [List.append_nil, e] at a
    rw [← e] at a b
    rw [a] at b
    simp only [Option.some.injEq, Prod.mk.injEq] at b
    have := congrArg List.length b.2
    rw [List.length_drop] at this
    simp at this
    omega
theorem num_may (n : Int) : (num n).may = true := by
  unfold num Wr.may; rw [fit_mk]; rfl
theorem num_in (n : Int) (h : -9223372036854775808 ≤ n ∧ n ≤ 9223372036854775807) : (num n).in64 = true := by
  unfold num; rw [in64_mk, allIn_nil, decide_eq_true h.1, decide_eq_true h.2]; rfl
theorem num_len (n : Int) : (num n).enc.length = 9 := by
  unfold num; rw [enc_mk, if_pos rfl, List.length_cons, highs_len]
theorem txt_may (s : ByteArray) (h : s.size ≤ 1048576) : (txt s).may = true := by
  unfold txt Wr.may; rw [fit_mk, if_neg (by decide), if_pos rfl, decide_eq_true h]; rfl
theorem txt_in (s : ByteArray) : (txt s).in64 = true := by
  unfold txt; rw [in64_mk, allIn_nil]; rfl
theorem txt_len (s : ByteArray) : (txt s).enc.length = s.size + 5 := by
  unfold txt; rw [enc_mk, if_neg (by decide), if_pos rfl, List.length_cons, List.length_append, highs_len]; simp; omega
theorem size_of_bytes {x : Wr} (h : x.may = true) : x.bytes.size = x.enc.length := by
  rw [← bytes_len x h]; simp
/-- A block that was there, behind whatever is made. -/
theorem row_kept {w w' : World} {g : Nat} {o : Obj} (h : w.heap[g]? = some o) (hg : w.grownBy w' none) : w'.heap[g]? = some o := (hg.block g (Array.getElem?_eq_some_iff.1 h).1 (by simp)).trans h
end Go.Proofs.Ytaecfcodldbnhaa

namespace Go.Proofs.Ytaecfcodldbnhaa
open Go.RowKit Wd Mm Vw

/-- The cells of wires, each with its list's slice. -/
def flat (ps : List (Wr × Value)) : List Value := ps.flatMap fun p => [.int .i64 p.1.k, .int .i64 p.1.n, .string p.1.s, p.2]
theorem flat_cons (p : Wr × Value) (ps : List (Wr × Value)) : flat (p :: ps) = [.int .i64 p.1.k, .int .i64 p.1.n, .string p.1.s, p.2] ++ flat ps := rfl
theorem flat_len (ps : List (Wr × Value)) : (flat ps).length = ps.length * 4 := by
  induction ps with
  | nil => rfl
  | cons p ps ih => rw [flat_cons, List.length_append, ih, List.length_cons]; simp; omega
theorem flat_snoc (ps : List (Wr × Value)) (p : Wr × Value) : flat (ps ++ [p]) = flat ps ++ [.int .i64 p.1.k, .int .i64 p.1.n, .string p.1.s, p.2] := by
  unfold flat; rw [List.flatMap_append]; rfl
theorem flat_get (ps : List (Wr × Value)) (i : Nat) (p : Wr × Value) (h : ps[i]? = some p) :
    (flat ps)[i * 4]? = some (.int .i64 p.1.k) ∧ (flat ps)[i * 4 + 1]? = some (.int .i64 p.1.n) ∧ (flat ps)[i * 4 + 2]? = some (.string p.1.s) ∧ (flat ps)[i * 4 + 3]? = some p.2 := by
  induction ps generalizing i with
  | nil => simp at h
  | cons q ps ih =>
    cases i with
    | zero =>
      obtain rfl : q = p := by simpa using h
      exact ⟨rfl, rfl, rfl, rfl⟩
    | succ i =>
      obtain ⟨h0, h1, h2, h3⟩ := ih i (by simpa using h)
      rw [flat_cons]
      refine ⟨?_, ?_, ?_, ?_⟩
      · rw [List.getElem?_append_right (by simp; omega), show (i + 1) * 4 - [Value.int .i64 q.1.k, .int .i64 q.1.n, .string q.1.s, q.2].length = i * 4 by simp; omega]; exact h0
      · rw [List.getElem?_append_right (by simp; omega), show (i + 1) * 4 + 1 - [Value.int .i64 q.1.k, .int .i64 q.1.n, .string q.1.s, q.2].length = i * 4 + 1 by simp; omega]; exact h1
      · rw [List.getElem?_append_right (by simp; omega), show (i + 1) * 4 + 2 - [Value.int .i64 q.1.k, .int .i64 q.1.n, .string q.1.s, q.2].length = i * 4 + 2 by simp; omega]; exact h2
      · rw [List.getElem?_append_right (by simp; omega), show (i + 1) * 4 + 3 - [Value.int .i64 q.1.k, .int .i64 q.1.n, .string q.1.s, q.2].length = i * 4 + 3 by simp; omega]; exact h3
/-- A row of the call's own that holds these wires. -/
def Own (B : Nat) (v : Value) (ps : List (Wr × Value)) (w : World) : Prop := w.ownsRow B 54 4 v ps.length (flat ps)
theorem Own.kept {B : Nat} {v : Value} {ps : List (Wr × Value)} {w w' : World} (h : Own B v ps w) (hg : w.grownBy w' none) : Own B v ps w' := by
  refine World.ownsRow.kept h hg ?_
  cases hv : v.ownBlock with
  | none => exact .inl rfl
  | some k => exact .inr (by simp)
theorem Own.nil (B : Nat) (w : World) : Own B (.slice none 0 0) [] w := World.ownsRow_nil w B _ 4
theorem Own.slice {B : Nat} {v : Value} {ps : List (Wr × Value)} {w : World} (h : Own B v ps w) : ∃ A c, v = .slice A ps.length c := by
  rcases h.2 with ⟨rfl, h0⟩ | ⟨g, cap, cur, rfl, _⟩
  · exact ⟨none, 0, by rw [h0]⟩
  · exact ⟨_, _, rfl⟩
/-- .. as a list in memory. -/
theorem Own.list {B : Nat} {v : Value} {ps : List (Wr × Value)} {w : World} (h : Own B v ps w) (hn : ps.length ≤ 1099511627776) (hp : ∀ p ∈ ps, HL w 0 p.2 p.1.l) : HL w 0 v (ps.map Prod.fst) := by
  have hcells := fun (g : Nat) (hg : v.ownBlock = some g) => World.ownsRow.cells h hg
  rcases h.2 with ⟨rfl, h0⟩ | ⟨g, cap, cur, rfl, hB, hg, _⟩
  · rw [List.length_eq_zero_iff.1 h0]; exact .nil _ _
  · have hc : ∀ j u, (flat ps)[j]? = some u → w.cell? ⟨g, 0 + j, none⟩ = some u := fun j u hu => by
      have := hcells g rfl j u hu
      have hadd : (⟨g, 0, none⟩ : Addr).add j = ⟨g, 0 + j, none⟩ := by unfold Addr.add; split <;> simp_all
      rwa [hadd] at this
    have hl : (ps.map Prod.fst).length = ps.length := List.length_map _
    have key : ∀ (i : Nat) (x : Wr), (ps.map Prod.fst)[i]? = some x → ∃ p : Wr × Value, ps[i]? = some p ∧ p.1 = x := fun i x hx => by
      rw [List.getElem?_map] at hx
      obtain ⟨p, h1, h2⟩ := Option.map_eq_some_iff.1 hx
      exact ⟨p, h1, h2⟩
    rw [← hl]
    refine .row g 0 cap _ (fun i => match ps[i]? with | some p => p.2 | none => .nilIface) (Nat.zero_le _) (Array.getElem?_eq_some_iff.1 hg).1 (by rw [hl]; exact hn) ?_ ?_ ?_ ?_ ?_
    · intro i x hx; obtain ⟨p, h1, rfl⟩ := key i x hx; exact hc _ _ (flat_get ps i p h1).1
    · intro i x hx; obtain ⟨p, h1, rfl⟩ := key i x hx; exact hc _ _ (flat_get ps i p h1).2.1
    · intro i x hx; obtain ⟨p, h1, rfl⟩ := key i x hx; exact hc _ _ (flat_get ps i p h1).2.2.1
    · intro i x hx; obtain ⟨p, h1, rfl⟩ := key i x hx; simp only [h1]; exact hc _ _ (flat_get ps i p h1).2.2.2
    · intro i x hx; obtain ⟨p, h1, rfl⟩ := key i x hx; simp only [h1]; exact hp p (List.mem_of_getElem? h1)
/-- A wire's cells, just laid, one slice long. -/
theorem cells4 (w : World) (a0 a1 a2 a3 : Value) : ∀ (j : Nat) (u : Value), [a0, a1, a2, a3][j]? = some u → (w.alloc (.cells #[a0, a1, a2, a3] 54)).cell? ((⟨w.heap.size, 0, none⟩ : Addr).add j) = some u := by
  intro j u hj
  have hadd : (⟨w.heap.size, 0, none⟩ : Addr).add j = ⟨w.heap.size, j, none⟩ := by unfold Addr.add; split <;> simp_all
  rw [hadd]
  have := cell_of_row _ w.heap.size j #[a0, a1, a2, a3] 54 (0, 0) (heap_alloc_new w _)
  rw [this]
  simpa using hj
theorem one4 (k n : Int) (s : ByteArray) (A : Option Addr) (m c : Nat) : ∀ u ∈ [Value.int .i64 k, .int .i64 n, .string s, .slice A m c], u.oneCell' = true := by
  intro u hu
  simp only [List.mem_cons, List.not_mem_nil, or_false] at hu
  rcases hu with rfl | rfl | rfl | rfl <;> rfl
theorem own_slice4 {w : World} {B : Nat} {e : TypeId} {v : Value} {n : Nat} {xs : List Value} (h : w.ownsRow B e 4 v n xs) : ∃ A m c, v = .slice A m c := by
  rcases h.2 with ⟨rfl, _⟩ | ⟨g, cap, cur, rfl, _⟩
  · exact ⟨_, _, _, rfl⟩
  · exact ⟨_, _, _, rfl⟩

/-- Texts that came in. -/
def HeldT (w : World) (a : Option Addr) (len : Nat) (zs : List ByteArray) : Prop := 0 < len → ∃ g o, a = some ⟨g, o, none⟩ ∧ g < w.heap.size ∧ ∀ i, i < len → w.cell? ⟨g, o + i, none⟩ = some (.string (zs.getD i ByteArray.empty))
theorem HeldT.keep {w w' : World} {a : Option Addr} {n : Nat} {zs : List ByteArray} (h : HeldT w a n zs) (hg : w.grownBy w' none) : HeldT w' a n zs := fun hn => by
  obtain ⟨g, o, e, hl, hc⟩ := h hn
  refine ⟨g, o, e, Nat.lt_of_lt_of_le hl hg.size, fun i hi => ?_⟩
  have := hg.block g hl (by simp)
  rw [World.cell?_of_block (w := w) (a := ⟨g, o + i, none⟩) this]
  exact hc i hi
theorem heldT_of {w : World} {a : Option Addr} {len cap : Nat} {zs : List ByteArray} (h : IsStrs w a len cap zs) : HeldT w a len zs ∧ len ≤ 9223372036854775807 ∧ ∀ i, i < len → (zs.getD i ByteArray.empty).size ≤ 9223372036854775807 := by
  rcases h with ⟨rfl, rfl, rfl, rfl⟩ | ⟨x, rfl, hl, hc, hz, hcell, hwf⟩
  · exact ⟨fun h => absurd h (by omega), by omega, fun i hi => absurd hi (by omega)⟩
  · unfold maxLen at hc hwf
    refine ⟨fun h0 => ?_, by omega, fun i hi => ?_⟩
    · obtain ⟨b, o, sp⟩ := x
      have c0 := hcell 0 (by omega)
      cases sp with
      | some sp =>
        exfalso
        simp only [Addr.add, World.cell?] at c0
        split at c0 <;> simp at c0
      | none =>
        refine ⟨b, o, rfl, ?_, fun i hi => ?_⟩
        · have := block_lt_of_cell c0
          simpa [Addr.add] using this
        · have ci := hcell i (by omega)
          have hadd : (⟨b, o, none⟩ : Addr).add i = ⟨b, o + i, none⟩ := by unfold Addr.add; split <;> simp_all
          rwa [hadd] at ci
    · have := hwf (zs.getD i ByteArray.empty) (by rw [List.getD_eq_getElem?_getD, List.getElem?_eq_getElem (by omega)]; exact List.getElem_mem _)
      omega
end Go.Proofs.Ytaecfcodldbnhaa

namespace Go.Proofs.Ytaecfcodldbnhaa
open Go.RowKit Wd Mm Vw

theorem lst_len (xs : List Wr) : (lst xs).enc.length = 5 + (encs xs).length := by
  unfold lst; rw [enc_mk, if_neg (by decide), if_neg (by decide), List.length_cons, List.length_append, highs_len]; omega
theorem encs_snoc (xs : List Wr) (x : Wr) : (encs (xs ++ [x])).length = (encs xs).length + x.enc.length := by
  induction xs with
  | nil => simp [encs_cons, encs_nil]
  | cons y r ih => simp only [List.cons_append, encs_cons, List.length_append, ih]; omega
theorem allIn_of : ∀ xs : List Wr, (∀ x ∈ xs, x.in64 = true) → allIn xs = true
  | [], _ => allIn_nil
  | x :: r, h => by
    rw [allIn_cons, h x List.mem_cons_self, allIn_of r (fun y hy => h y (List.mem_cons_of_mem _ hy))]; rfl
theorem lst_in (xs : List Wr) (h : ∀ x ∈ xs, x.in64 = true) : (lst xs).in64 = true := by
  unfold lst; rw [in64_mk, allIn_of xs h]; rfl
theorem wrap_range (n : Int) : -9223372036854775808 ≤ wrap64 n ∧ wrap64 n ≤ 9223372036854775807 := by unfold wrap64; omega
/-- As HL, all blocks being such ones. -/
inductive HP (w : World) (P : Nat → Prop) : Value → List Wr → Prop
  | nil (A : Option Addr) (c : Nat) : HP w P (.slice A 0 c) []
  | row (g o c : Nat) (l : List Wr) (L : Nat → Value) (hB : P g) (hg : g < w.heap.size) (hn : l.length ≤ 1099511627776)
      (hk : ∀ i x, l[i]? = some x → w.cell? ⟨g, o + i * 4, none⟩ = some (.int .i64 x.k))
      (hv : ∀ i x, l[i]? = some x → w.cell? ⟨g, o + i * 4 + 1, none⟩ = some (.int .i64 x.n))
      (hs : ∀ i x, l[i]? = some x → w.cell? ⟨g, o + i * 4 + 2, none⟩ = some (.string x.s))
      (hL : ∀ i x, l[i]? = some x → w.cell? ⟨g, o + i * 4 + 3, none⟩ = some (L i))
      (hl : ∀ i x, l[i]? = some x → HP w P (L i) x.l) : HP w P (.slice (some ⟨g, o, none⟩) l.length c) l
theorem HP.keep {w w' : World} {P Q : Nat → Prop} {v : Value} {l : List Wr} (h : HP w P v l) (hsz : w.heap.size ≤ w'.heap.size) (hb : ∀ g, P g → g < w.heap.size → w'.heap[g]? = w.heap[g]? ∧ Q g) : HP w' Q v l := by
  induction h with
  | nil A c => exact .nil A c
  | row g o c l L hB hg hn hk hv hs hL hl ih =>
    obtain ⟨he, hq⟩ := hb g hB hg
    refine .row g o c l L hq (Nat.lt_of_lt_of_le hg hsz) hn ?_ ?_ ?_ ?_ ih
    · intro i x hx; rw [cell_of_heap he]; exact hk i x hx
    · intro i x hx; rw [cell_of_heap he]; exact hv i x hx
    · intro i x hx; rw [cell_of_heap he]; exact hs i x hx
    · intro i x hx; rw [cell_of_heap he]; exact hL i x hx
theorem HP.list {w : World} {P : Nat → Prop} {v : Value} {l : List Wr} (h : HP w P v l) : HL w 0 v l := by
  induction h with
  | nil A c => exact .nil A c
  | row g o c l L hB hg hn hk hv hs hL hl ih => exact .row g o c l L (Nat.zero_le _) hg hn hk hv hs hL ih
theorem HP.of {w : World} {B : Nat} {v : Value} {l : List Wr} (h : HL w B v l) : HP w (fun g => B ≤ g) v l := by
  induction h with
  | nil A c => exact .nil A c
  | row g o c l L hB hg hn hk hv hs hL hl ih => exact .row g o c l L hB hg hn hk hv hs hL ih
/-- The block of a row's value is not among the list's. -/
abbrev Off (v : Value) (g : Nat) : Prop := some g ≠ v.ownBlock
theorem HP.kept {w w' : World} {P : Nat → Prop} {v : Value} {l : List Wr} (h : HP w P v l) (hg : w.grownBy w' none) : HP w' P v l := h.keep hg.size (fun g hP hl => ⟨hg.block g hl (by simp), hP⟩)
theorem HP.after {w w' : World} {u u' v : Value} {l : List Wr} (h : HP w (Off u) v l) (hg : w.grownBy w' u.ownBlock) (ha : u'.ownBlock = u.ownBlock ∨ u'.ownBlock = some w.heap.size) : HP w' (Off u') v l := by
  refine h.keep hg.size (fun g hP hl => ⟨hg.block g hl hP, ?_⟩)
  show some g ≠ u'.ownBlock
  rcases ha with e | e
  · rw [e]; exact hP
  · rw [e]; intro e2; have := Option.some.inj e2; omega
/-- Some wire, in memory. -/
def Made (w : World) (N : Nat) (e : Ending) (w' : World) : Prop := ∃ (x : Wr) (A : Option Addr) (c : Nat), e = .returned (.agg #[.int .i64 x.k, .int .i64 x.n, .string x.s, .slice A x.l.length c]) ∧ HL w' w.heap.size (.slice A x.l.length c) x.l ∧ x.in64 = true ∧ x.enc.length ≤ N ∧ w.grownBy w' none
theorem result_row {w w2 : World} (hg : (w.alloc (.cells #[.int .i64 0, .int .i64 0, .string ⟨#[]⟩, .slice none 0 0] 54)).grownBy w2 none) : w2.heap[w.heap.size]? = some (.cells #[.int .i64 0, .int .i64 0, .string ⟨#[]⟩, .slice none 0 0] 54 (0, 0)) := row_kept (heap_alloc_new w _) hg
/-- Bytes that came in, from a place on. -/
theorem Held8.part {w : World} {g o len : Nat} (h : Held8 w (some ⟨g, o, none⟩) len) (h0 : 0 < len) (i m : Nat) (hi : i + m ≤ len) : Held8 w (some ⟨g, o + i, none⟩) m := fun hm => by
  obtain ⟨g', o', e, hl, hc⟩ := h h0
  cases e
  refine ⟨g, o + i, rfl, hl, fun j hj => ?_⟩
  obtain ⟨b, hb, hc'⟩ := hc (i + j) (by omega)
  exact ⟨b, hb, by rw [Nat.add_assoc]; exact hc'⟩
/-- How many bytes there may be of a wire by so many numbers. -/
def bnd (m : Nat) : Nat := 100 * 5 ^ (min m 6)
theorem bnd_le {a b : Nat} (h : a ≤ b) : bnd a ≤ bnd b := Nat.mul_le_mul_left _ (Nat.pow_le_pow_right (by decide) (by omega))
theorem bnd_pos (m : Nat) : 100 ≤ bnd m := by
  have : 0 < 5 ^ (min m 6) := Nat.pow_pos (by decide)
  unfold bnd; omega
theorem bnd_step (m : Nat) (hm : 0 < m) : 5 + 4 * bnd (min (m - 1) 5) ≤ bnd m := by
  have h1 := bnd_pos (min (m - 1) 5)
  have e : bnd m = 5 * bnd (min (m - 1) 5) := by
    unfold bnd
    rw [show min m 6 = min (min (m - 1) 5) 6 + 1 by omega, Nat.pow_succ]
    omega
  omega
theorem Made.more {w w' : World} {N N' : Nat} {e : Ending} (h : Made w N e w') (hN : N ≤ N') : Made w N' e w' := by
  obtain ⟨x, A, c, h1, h2, h3, h4, h5⟩ := h
  exact ⟨x, A, c, h1, h2, h3, by omega, h5⟩
end Go.Proofs.Ytaecfcodldbnhaa
