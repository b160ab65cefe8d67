/- The document's number, read, GetWire. The document's read of a list; read, GetWire. The document's read at whatever bytes; GetWire. -/
import Derived.Test.YtaecfcodldbnhaaVD
import Derived.Laws.Bits64b
namespace Go.Proofs.Ytaecfcodldbnhaa
open Go.RowKit Wd Mm Vw

theorem beN_lt8 (l : List UInt8) (h : l.length ≤ 8) : beN l < 18446744073709551616 := by
  have H : ∀ (n : Nat) (l : List UInt8), l.length = n → beN l < 256 ^ n := by
    intro n
    induction n with
    | zero => intro l hl; rw [List.length_eq_zero_iff.1 hl]; decide
    | succ n ih =>
      intro l hl
      obtain ⟨l', c, rfl⟩ : ∃ l' c, l = l' ++ [c] := by
        rcases List.eq_nil_or_concat l with rfl | ⟨l', c, rfl⟩
        · cases hl
        · exact ⟨l', c, by simp⟩
      rw [beN_snoc]
      have h1 := ih l' (by simpa using hl)
      have h2 := c.toNat_lt
      rw [Nat.pow_succ]
      omega
  have h1 := H _ l rfl
  have h2 : 256 ^ l.length ≤ 256 ^ 8 := Nat.pow_le_pow_right (by decide) h
  have h3 : (256 : Nat) ^ 8 = 18446744073709551616 := by decide
  omega
/-- What Read holds. -/
def readV (x : Wr) (A : Option Addr) (c : Nat) (next : Int) : Value := .agg #[.int .i64 x.k, .int .i64 x.n, .string x.s, .slice A x.l.length c, .int .i64 next]
def ReadBad (w : World) (e : Ending) (w' : World) : Prop := e = .returned (.agg #[.int .i64 0, .int .i64 0, .string ⟨#[]⟩, .slice none 0 0, .int .i64 (-1)]) ∧ w.grownBy w' none
def ReadGot (x : Wr) (next : Nat) (w : World) (e : Ending) (w' : World) : Prop := ∃ A c, e = .returned (.agg #[.int .i64 x.k, .int .i64 x.n, .string x.s, .slice A x.l.length c, .int .i64 (next : Int)]) ∧ HL w' w.heap.size (.slice A x.l.length c) x.l ∧ w.grownBy w' none
end Go.Proofs.Ytaecfcodldbnhaa

namespace Go.Proofs.Ytaecfcodldbnhaa
open Go.RowKit Wd Mm Vw

abbrev Off2 (B : Nat) (v : Value) (g : Nat) : Prop := B ≤ g ∧ some g ≠ v.ownBlock
theorem HP.after2 {w w' : World} {B : Nat} {u u' v : Value} {l : List Wr} (h : HP w (Off2 B u) v l) (hg : w.grownBy w' u.ownBlock) (ha : u'.ownBlock = u.ownBlock ∨ u'.ownBlock = some w.heap.size) : HP w' (Off2 B u') v l := by
  refine h.keep hg.size (fun g hP hl => ⟨hg.block g hl hP.2, hP.1, ?_⟩)
  rcases ha with e | e
  · rw [e]; exact hP.2
  · rw [e]; intro e2; have := Option.some.inj e2; omega
theorem HP.set1 {w : World} {B b i : Nat} {u v x : Value} {l : List Wr} (h : HP w (Off2 B u) v l) (hb : b < B) : HP (w.setCell ⟨b, i, none⟩ x) (Off2 B u) v l :=
  h.keep (by simp [World.setCell]) (fun g hP _ => ⟨heap_setCell_other _ _ _ _ (by have := hP.1; simp only [ne_eq]; omega), hP⟩)
theorem Own.set1 {w : World} {B b i : Nat} {v x : Value} {ps : List (Wr × Value)} (h : Own B v ps w) (hb : b < B) : Own B v ps (w.setCell ⟨b, i, none⟩ x) := by
  refine World.ownsRow.kept h (gb_set1 w b i x) (.inr fun e => ?_)
  have := (h.lt b e).1
  omega
theorem cells4' (w : World) (g : Nat) (hg : w.heap.size = g) (a0 a1 a2 a3 : Value) : ∀ (j : Nat) (u : Value), [a0, a1, a2, a3][j]? = some u → (w.alloc (.cells #[a0, a1, a2, a3] 54)).cell? ((⟨g, 0, none⟩ : Addr).add j) = some u := by
  subst hg; exact cells4 w a0 a1 a2 a3
theorem box5 {w : World} {b : Nat} {a0 a1 a2 a3 a4 : Value} {T : TypeId} (h : w.heap[b]? = some (.cells #[a0, a1, a2, a3, a4] T (0, 0))) :
    (w.cell? ⟨b, 0, none⟩ = some a0 ∧ w.cell? ⟨b, 1, none⟩ = some a1 ∧ w.cell? ⟨b, 2, none⟩ = some a2 ∧ w.cell? ⟨b, 3, none⟩ = some a3 ∧ w.cell? ⟨b, 4, none⟩ = some a4) ∧
    (w.frozen? ⟨b, 0, none⟩ = false ∧ w.frozen? ⟨b, 1, none⟩ = false ∧ w.frozen? ⟨b, 2, none⟩ = false ∧ w.frozen? ⟨b, 3, none⟩ = false ∧ w.frozen? ⟨b, 4, none⟩ = false) ∧ b < w.heap.size :=
  ⟨⟨cell_of_row w b 0 _ _ _ h, cell_of_row w b 1 _ _ _ h, cell_of_row w b 2 _ _ _ h, cell_of_row w b 3 _ _ _ h, cell_of_row w b 4 _ _ _ h⟩, ⟨frozen_of_row w b 0 _ _ h, frozen_of_row w b 1 _ _ h, frozen_of_row w b 2 _ _ h, frozen_of_row w b 3 _ _ h, frozen_of_row w b 4 _ _ h⟩, (Array.getElem?_eq_some_iff.1 h).1⟩
theorem set5_row {w : World} {g : Nat} {x0 x1 x2 x3 x4 : Value} {T : TypeId} (h : w.heap[g]? = some (.cells #[x0, x1, x2, x3, x4] T (0, 0))) (v0 v1 v2 v3 v4 : Value) :
    (((((w.setCell ⟨g, 0, none⟩ v0).setCell ⟨g, 1, none⟩ v1).setCell ⟨g, 2, none⟩ v2).setCell ⟨g, 3, none⟩ v3).setCell ⟨g, 4, none⟩ v4).heap[g]? = some (.cells #[v0, v1, v2, v3, v4] T (0, 0)) :=
  heap_setCell_same _ g 4 _ _ _ (heap_setCell_same _ g 3 _ _ _ (heap_setCell_same _ g 2 _ _ _ (heap_setCell_same _ g 1 _ _ _ (heap_setCell_same w g 0 _ _ _ h))))
theorem gb_new5 {a w : World} {g : Nat} (hg : a.heap.size ≤ g) {v0 v1 v2 v3 v4 : Value} (h : a.grownBy w none) : a.grownBy (((((w.setCell ⟨g, 0, none⟩ v0).setCell ⟨g, 1, none⟩ v1).setCell ⟨g, 2, none⟩ v2).setCell ⟨g, 3, none⟩ v3).setCell ⟨g, 4, none⟩ v4) none :=
  gb_new (gb_new4 hg h) (gb_set1 _ _ _ _) hg
/-- As Own.list, all blocks from C on. -/
theorem Own.listAt {B C : Nat} {v : Value} {ps : List (Wr × Value)} {w : World} (h : Own B v ps w) (hn : ps.length ≤ 1099511627776) (hCB : C ≤ B) (hp : ∀ p ∈ ps, HL w C p.2 p.1.l) : HL w C v (ps.map Prod.fst) := by
  have hcells := fun (g : Nat) (hg : v.ownBlock = some g) => World.ownsRow.cells h hg
  rcases h.2 with ⟨rfl, h0⟩ | ⟨g, cap, cur, rfl, hB, hg, _⟩
  · rw [List.length_eq_zero_iff.1 h0]; exact .nil _ _
  · have hc : ∀ j u, (flat ps)[j]? = some u → w.cell? ⟨g, 0 + j, none⟩ = some u := fun j u hu => by
      have := hcells g rfl j u hu
      have hadd : (⟨g, 0, none⟩ : Addr).add j = ⟨g, 0 + j, none⟩ := by unfold Addr.add; split <;> simp_all
      rwa [hadd] at this
    have hl : (ps.map Prod.fst).length = ps.length := List.length_map _
    have key : ∀ (i : Nat) (x : Wr), (ps.map Prod.fst)[i]? = some x → ∃ p : Wr × Value, ps[i]? = some p ∧ p.1 = x := fun i x hx => by
      rw [List.getElem?_map] at hx
      obtain ⟨p, h1, h2⟩ := Option.map_eq_some_iff.1 hx
      exact ⟨p, h1, h2⟩
    rw [← hl]
    refine .row g 0 cap _ (fun i => match ps[i]? with | some p => p.2 | none => .nilIface) (by omega) (Array.getElem?_eq_some_iff.1 hg).1 (by rw [hl]; exact hn) ?_ ?_ ?_ ?_ ?_
    · intro i x hx; obtain ⟨p, h1, rfl⟩ := key i x hx; exact hc _ _ (flat_get ps i p h1).1
    · intro i x hx; obtain ⟨p, h1, rfl⟩ := key i x hx; exact hc _ _ (flat_get ps i p h1).2.1
    · intro i x hx; obtain ⟨p, h1, rfl⟩ := key i x hx; exact hc _ _ (flat_get ps i p h1).2.2.1
    · intro i x hx; obtain ⟨p, h1, rfl⟩ := key i x hx; simp only [h1]; exact hc _ _ (flat_get ps i p h1).2.2.2
    · intro i x hx; obtain ⟨p, h1, rfl⟩ := key i x hx; simp only [h1]; exact hp p (List.mem_of_getElem? h1)
theorem HP.listAt {w : World} {P : Nat → Prop} {C : Nat} {v : Value} {l : List Wr} (h : HP w P v l) (hP : ∀ g, P g → C ≤ g) : HL w C v l := by
  induction h with
  | nil A c => exact .nil A c
  | row g o c l L hB hg hn hk hv hs hL hl ih => exact .row g o c l L (hP g hB) hg hn hk hv hs hL ih
/-- What is left is the end of what there was. -/
def Suffix (f : List UInt8 → Option (Wr × List UInt8)) : Prop := ∀ s x t, f s = some (x, t) → ∃ p, s = p ++ t ∧ 5 ≤ p.length
theorem rd_suffix (R : Nat) : Suffix (rd R) := fun s x t h => by
  have h1 := (rd_back R s x t h).1
  have h2 := rd_len R s x t h
  refine ⟨x.enc, h1, ?_⟩
  rw [h1, List.length_append] at h2
  omega
def ReadRes (s : ByteArray) (R : Option (List Wr × List UInt8)) (w : World) (e : Ending) (w' : World) : Prop := match R with
  | none => ReadBad w e w'
  | some p => ReadGot (lst p.1) (s.size - p.2.length) w e w'
end Go.Proofs.Ytaecfcodldbnhaa

namespace Go.Proofs.Ytaecfcodldbnhaa
open Go.RowKit Wd Mm Vw

theorem data_len (s : ByteArray) : s.data.toList.length = s.size := by simp
theorem suffix_len {f : List UInt8 → Option (Wr × List UInt8)} (h : Suffix f) : ∀ s x t, f s = some (x, t) → t.length + 5 ≤ s.length := by
  intro s x t hf
  obtain ⟨p, rfl, hp⟩ := h s x t hf
  rw [List.length_append]; omega
/-- GetWire: a wire; or none. -/
def RefGot (x : Wr) (w : World) (e : Ending) (w' : World) : Prop := ∃ A c, e = .returned (.agg #[.int .i64 x.k, .int .i64 x.n, .string x.s, .slice A x.l.length c, .bool true]) ∧ HL w' w.heap.size (.slice A x.l.length c) x.l ∧ w.grownBy w' none
def RefNone (w : World) (e : Ending) (w' : World) : Prop := e = .returned (.agg #[.int .i64 0, .int .i64 0, .string ⟨#[]⟩, .slice none 0 0, .bool false]) ∧ w.grownBy w' none
theorem start (s : ByteArray) : s.data.toList.drop 0 = s.data.toList := rfl
end Go.Proofs.Ytaecfcodldbnhaa
