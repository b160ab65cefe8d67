/- The document's example, which every statement of layer 4 asks. -/
import Derived.Test.YtbammjhafgbfkaaDoorVGet
import Derived.Test.YtbammjhafgbfkaaDoorVRound
import Derived.Test.YtbammjhafgbfkaaDoorVSame
namespace Go.Proofs.YtbammjhafgbfkaaDoor
open Go.RowKit Wd Mm Vw

def num (n : Int) : Wr := .mk 1 n ⟨#[]⟩ []
def txt (s : ByteArray) : Wr := .mk 2 0 s []
def lst (l : List Wr) : Wr := .mk 3 0 ⟨#[]⟩ l
/-- Get of Put is the same. -/
theorem get_enc (x : Wr) (h : x.may = true) (hi : x.in64 = true) : get x.enc = some x := by
  have := rd_enc 6 x h hi []
  rw [List.append_nil] at this
  unfold get
  rw [this]
theorem get_bytes (x : Wr) (h : x.may = true) (hi : x.in64 = true) : get x.bytes.data.toList = some x := by
  unfold Wr.bytes
  rw [if_pos h]
  exact get_enc x h hi
/-- What is told has just these bytes, and may be. -/
theorem get_back {s : List UInt8} {x : Wr} (h : get s = some x) : s = x.enc ∧ x.may = true ∧ x.in64 = true := by
  unfold get at h
  cases hr : rd 6 s with
  | none => rw [hr] at h; cases h
  | some p =>
    obtain ⟨y, t⟩ := p
    rw [hr] at h
    cases t with
    | cons a t => cases h
    | nil =>
      cases h
      have := rd_back 6 s x [] hr
      rw [List.append_nil] at this
      exact this
theorem bytes_len (x : Wr) (h : x.may = true) : x.bytes.data.toList = x.enc := by
  unfold Wr.bytes; rw [if_pos h]
/-- A row that was just laid, of wires without lists. -/
theorem HL.laid {w : World} {g : Nat} {T : TypeId} {cs : Array Value} {B : Nat} (l : List Wr) (h : w.heap[g]? = some (.cells cs T (0, 0))) (hB : B ≤ g) (hn : l.length ≤ 1099511627776) (c : Nat)
    (hc : ∀ i x, l[i]? = some x → cs[i * 4]? = some (.int .i64 x.k) ∧ cs[i * 4 + 1]? = some (.int .i64 x.n) ∧ cs[i * 4 + 2]? = some (.string x.s) ∧ ∃ A m d, cs[i * 4 + 3]? = some (.slice A m d) ∧ HL w B (.slice A m d) x.l) : HL w B (.slice (some ⟨g, 0, none⟩) l.length c) l := by
  have hrow : Row w g T cs := h
  refine .row g 0 c l (fun i => match cs[i * 4 + 3]? with | some v => v | none => .nilIface) hB hrow.lt hn ?_ ?_ ?_ ?_ ?_
  · intro i x hx; rw [Nat.zero_add, hrow.get]; exact (hc i x hx).1
  · intro i x hx; rw [Nat.zero_add, hrow.get]; exact (hc i x hx).2.1
  · intro i x hx; rw [Nat.zero_add, hrow.get]; exact (hc i x hx).2.2.1
  · intro i x hx
    obtain ⟨A, m, d, h3, _⟩ := (hc i x hx).2.2.2
    simp only [Nat.zero_add, hrow.get, h3]
  · intro i x hx
    obtain ⟨A, m, d, h3, h4⟩ := (hc i x hx).2.2.2
    simp only [h3]
    exact h4
def exW : Wr := lst [txt ⟨#[97]⟩, num (-2)]
theorem exW_may : exW.may = true := by decide
theorem exW_in : exW.in64 = true := by decide
theorem exW_len : exW.enc.length = 20 := by decide
theorem one_may : (num 1).may = true := by decide
theorem one_bytes : (num 1).bytes = ⟨#[1, 0, 0, 0, 0, 0, 0, 0, 1]⟩ := by decide
theorem ErrT.grown {w w' : World} (h : ErrT w) (hg : w.grownBy w' none) : ErrT w' := h.keep hg (by simp)
theorem num_HL (w : World) (B : Nat) (A : Option Addr) (c : Nat) (n : Int) : HL w B (.slice A 0 c) (num n).l := .nil A c
theorem txt_HL (w : World) (B : Nat) (A : Option Addr) (c : Nat) (s : ByteArray) : HL w B (.slice A 0 c) (txt s).l := .nil A c
def exCells : Array Value := #[.int .i64 2, .int .i64 0, .string ⟨#[97]⟩, .slice none 0 0, .int .i64 1, .int .i64 (-2), .string ⟨#[]⟩, .slice none 0 0]
theorem ex_HL (w : World) (g : Nat) (h : w.heap[g]? = some (.cells exCells 24 (0, 0))) : HL w 0 (.slice (some ⟨g, 0, none⟩) 2 2) exW.l := by
  refine HL.laid [txt ⟨#[97]⟩, num (-2)] h (Nat.zero_le _) (by decide) 2 ?_
  intro i x hx
  match i, hx with
  | 0, hx =>
    cases hx
    exact ⟨rfl, rfl, rfl, none, 0, 0, rfl, .nil _ _⟩
  | 1, hx =>
    cases hx
    exact ⟨rfl, rfl, rfl, none, 0, 0, rfl, .nil _ _⟩
set_option maxHeartbeats 4000000 in
set_option maxRecDepth 100000 in
theorem awake_any (w : World) (hT : ErrT w) : Calls Tryd.prog 11 #[] w fun e w' => e = .returned (.bool true) ∧ w.grownBy w' none := by
  have HT := Lib.hid hT
  clear hT
  go_enter Tryd.func11, Tryd.ntmps11
  go_wp2_with fail
  refine (text_any ⟨#[97]⟩ _).mono ?_
  rintro e w1 ⟨rfl, g1⟩
  go_wp2_with fail
  refine (num_any (-2) _).mono ?_
  rintro e w2 ⟨rfl, g2⟩
  have Hg2 := Lib.hid (gb_none g1 g2)
  clear g1 g2
  go_wp2_with fail
  refine (list_any exW.l (.slice (some ⟨w2.heap.size, 0, none⟩) 2 2) (w2.alloc (.cells exCells 24)) (ex_HL _ _ (heap_alloc_new _ _))).mono ?_
  rintro e w3 ⟨A3, c3, rfl, hl3, g3⟩
  have Hg3 := Lib.hid (gb_none (gb_alloc Hg2.out _) g3)
  have Hl3 := Lib.hid (hl3.low (Nat.zero_le _))
  clear hl3 g3
  go_wp2_with fail
  refine (put_all exW _ _ Hl3.out (by rw [exW_len]; decide)).mono ?_
  rintro e w4 ⟨rfl, g4⟩
  have Hg4 := Lib.hid (gb_none Hg3.out g4)
  clear g4
  obtain ⟨b, Hb⟩ : ∃ b, Hid (exW.bytes = b) := ⟨_, rfl⟩
  have Hgot := Lib.hid (get_bytes exW exW_may exW_in)
  have Hblen : Hid (b.data.toList.length ≤ 1099511627776) := by
    show _ ≤ _
    rw [← Hb.out, bytes_len _ exW_may, exW_len]; decide
  rw [Hb.out] at Hgot ⊢
  go_wp2_with fail
  refine (get_some b w4 Hblen.out exW Hgot.out).mono ?_
  rintro e w5 ⟨A5, c5, rfl, hl5, g5⟩
  have Hg5 := Lib.hid (gb_none Hg4.out g5)
  have Hl5 := Lib.hid hl5
  clear hl5 g5
  go_wp2_with fail
  refine (num_any 1 _).mono ?_
  rintro e w6 ⟨rfl, g6⟩
  have Hg6 := Lib.hid (gb_none (gb_alloc Hg5.out _) g6)
  have g56 := gb_none (gb_alloc (gb_refl w5 none) (.cells #[.int .i64 exW.k, .int .i64 exW.n, .string exW.s, .slice A5 exW.l.length c5] 24)) g6
  have Hbox6 := Lib.hid (show w6.heap[w5.heap.size]? = some (.cells #[.int .i64 exW.k, .int .i64 exW.n, .string exW.s, .slice A5 exW.l.length c5] 24 (0, 0)) from (g6.block _ (by simp) (by simp)).trans (heap_alloc_new _ _))
  have Hl6 := Lib.hid (Hl5.out.kept g56)
  clear g6 g56
  go_wp2_with fail
  refine (put_all (num 1) (.slice none 0 0) _ (.nil _ _) (by decide)).mono ?_
  rintro e w7 ⟨rfl, g7⟩
  have Hg7 := Lib.hid (gb_none Hg6.out g7)
  rw [one_bytes]
  obtain ⟨⟨b0, b1, b2, b3⟩, _, hbl⟩ := box4 (show w7.heap[w5.heap.size]? = some (.cells #[.int .i64 exW.k, .int .i64 exW.n, .string exW.s, .slice A5 exW.l.length c5] 24 (0, 0)) from (g7.block _ (Array.getElem?_eq_some_iff.1 Hbox6.out).1 (by simp)).trans Hbox6.out)
  have hl7 := Hl6.out.kept g7
  obtain ⟨g, o, B0, m0, he, _, hgs, p0, p1, p2, p3, _⟩ := hl7.item (i := 0) (x := txt ⟨#[97]⟩) rfl
  subst he
  obtain ⟨g', o', B1, m1, he, _, hgs', q0, q1, q2, q3, _⟩ := hl7.item (i := 1) (x := num (-2)) rfl
  cases he
  clear g7 hl7
  simp only [Nat.zero_mul, Nat.one_mul, Nat.add_zero] at p0 p1 p2 p3 q0 q1 q2 q3
  replace b3 : w7.cell? ⟨w5.heap.size, 3, none⟩ = some (.slice (some ⟨g, o, none⟩) 2 c5) := b3
  replace p2 : w7.cell? ⟨g, o + 2, none⟩ = some (.string ⟨#[97]⟩) := p2
  replace q1 : w7.cell? ⟨g, o + 4 + 1, none⟩ = some (.int .i64 (-2)) := q1
  clear b0 b1 b2 p0 p1 p3 q0 q2 q3
  go_wp2_with fail
  go_ret
  exact ⟨rfl, Hg7.out⟩
end Go.Proofs.YtbammjhafgbfkaaDoor
