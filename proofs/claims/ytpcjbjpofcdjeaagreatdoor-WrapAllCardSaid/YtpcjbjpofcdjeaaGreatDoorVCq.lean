/- What bytes say: plain. Bytes tell a wire again; and what is told has just these bytes: plain. Two wires that are one: plain. The document's SameWire. The reader: text, list, wire. The reader: wire. The reader at bytes of any form; whole, Get. The document's example, which every statement of layer 4 asks. What the laws of layer 4 need besides: plain laws on arguments and bytes. A row of wires that the call appends to; texts and bytes that came in. deaddroplaw4.Make: some wire, in new memory. The document's number, read, GetWire. The document's read of a list; read, GetWire. The document's read at whatever bytes; GetWire. The document's right. The document's deep, MayWire. The document's Eight and four, of whatever number. The document's put: a wire's bytes behind a row of bytes. The document's PutWire. -/
import Derived.Test.YtpcjbjpofcdjeaaGreatDoorVBq
import Derived.SliceStrings
import Derived.Laws.Bits64b
set_option maxHeartbeats 8000000
set_option maxRecDepth 100000
namespace Go.Proofs.YtpcjbjpofcdjeaaGreatDoor.Vw
open Go Go.RowKit Mm Wd
def rds (f : List UInt8 → Option (Wr × List UInt8)) : Nat → List UInt8 → Option (List Wr × List UInt8)
 | 0, s => some ([], s)
 | n + 1, s => match f s with
  | none => none
  | some (x, r) => match rds f n r with
   | none => none
   | some (l, t) => some (x :: l, t)
def rdL (f : List UInt8 → Option (Wr × List UInt8)) (t : List UInt8) : Option (Wr × List UInt8) :=
 if t.length < 4 then none else if 65536 < beN (t.take 4) then none else (rds f (beN (t.take 4)) (t.drop 4)).map fun p => (.mk 3 0 ⟨#[]⟩ p.1, p.2)
def rdT (t : List UInt8) : Option (Wr × List UInt8) :=
 if t.length < 4 then none else if 1048576 < beN (t.take 4) then none else if (t.drop 4).length < beN (t.take 4) then none
  else some (.mk 2 0 ⟨((t.drop 4).take (beN (t.take 4))).toArray⟩ [], (t.drop 4).drop (beN (t.take 4)))
def rdN (t : List UInt8) : Option (Wr × List UInt8) := if t.length < 8 then none else some (.mk 1 (valI (t.take 8)) ⟨#[]⟩ [], t.drop 8)
def rdB (sub : Option (List UInt8 → Option (Wr × List UInt8))) : List UInt8 → Option (Wr × List UInt8)
 | [] => none
 | k :: t => if k = 1 then rdN t else if k = 2 then rdT t else if k = 3 then sub.bind fun f => rdL f t else none
def rd : Nat → List UInt8 → Option (Wr × List UInt8)
 | 0 => rdB none
 | r + 1 => rdB (some (rd r))
end Go.Proofs.YtpcjbjpofcdjeaaGreatDoor.Vw
namespace Go.Proofs.YtpcjbjpofcdjeaaGreatDoor.Vw
open Go Go.RowKit Mm Wd
mutual
def Wr.in64 : Wr → Bool
 | .mk _ n _ l => decide (-9223372036854775808 ≤ n) && decide (n ≤ 9223372036854775807) && allIn l
def allIn : List Wr → Bool
 | [] => true
 | x :: r => x.in64 && allIn r
end
theorem in64_mk (k n : Int) (s : ByteArray) (l : List Wr) : (Wr.mk k n s l).in64 = (decide (-9223372036854775808 ≤ n) && decide (n ≤ 9223372036854775807) && allIn l) := by rw [Wr.in64]
theorem allIn_cons (x : Wr) (r : List Wr) : allIn (x :: r) = (x.in64 && allIn r) := by rw [allIn]
theorem allIn_nil : allIn [] = true := by rw [allIn]
theorem highs4 (n : Int) : highs n 4 = [hiB n 3, hiB n 2, hiB n 1, hiB n 0] := rfl
theorem highs8 (n : Int) : highs n 8 = [hiB n 7, hiB n 6, hiB n 5, hiB n 4, hiB n 3, hiB n 2, hiB n 1, hiB n 0] := rfl
theorem beN4 (a b c d : UInt8) : beN [a, b, c, d] = ((a.toNat * 256 + b.toNat) * 256 + c.toNat) * 256 + d.toNat := by simp [beN]
theorem beN8 (a b c d e f g h : UInt8) : beN [a, b, c, d, e, f, g, h] = ((((((a.toNat * 256 + b.toNat) * 256 + c.toNat) * 256 + d.toNat) * 256 + e.toNat) * 256 + f.toNat) * 256 + g.toNat) * 256 + h.toNat := by simp [beN]
theorem beN_highs4 (n : Nat) (h : n < 4294967296) : beN (highs n 4) = n := by
 rw [highs4, beN4]
 have h0 := hiB_nat n 0
 have h1 := hiB_nat n 1
 have h2 := hiB_nat n 2
 have h3 := hiB_nat n 3
 simp only [Nat.mul_zero, Nat.mul_one, Nat.reduceMul, Int.reducePow] at h0 h1 h2 h3
 omega
theorem valI_highs8 (n : Int) (h1 : -9223372036854775808 ≤ n) (h2 : n ≤ 9223372036854775807) : valI (highs n 8) = n := by
 unfold valI
 rw [highs8, beN8]
 have g0 := hiB_nat n 0
 have g1 := hiB_nat n 1
 have g2 := hiB_nat n 2
 have g3 := hiB_nat n 3
 have g4 := hiB_nat n 4
 have g5 := hiB_nat n 5
 have g6 := hiB_nat n 6
 have g7 := hiB_nat n 7
 simp only [Nat.mul_zero, Nat.mul_one, Nat.reduceMul, Int.reducePow] at g0 g1 g2 g3 g4 g5 g6 g7
 unfold wrap64
 omega
theorem zero_text {s : ByteArray} (h : s.size = 0) : s = ⟨#[]⟩ := by
 obtain ⟨⟨l⟩⟩ := s
 cases l with
 | nil => rfl
 | cons a r => simp [ByteArray.size] at h
theorem take_app {a t : List UInt8} {n : Nat} (h : a.length = n) : (a ++ t).take n = a ∧ (a ++ t).drop n = t := by
 subst h; simp
theorem rds_encs (f : List UInt8 → Option (Wr × List UInt8)) : ∀ (l : List Wr) (t : List UInt8), (∀ x ∈ l, ∀ t, f (x.enc ++ t) = some (x, t)) → rds f l.length (encs l ++ t) = some (l, t) := by
 intro l
 induction l with
 | nil => intro t _; rw [encs_nil]; rfl
 | cons x r ih =>
  intro t h
  rw [encs_cons, List.append_assoc, List.length_cons, rds, h x List.mem_cons_self (encs r ++ t)]
  simp only
  rw [ih t (fun y hy => h y (List.mem_cons_of_mem _ hy))]
theorem rdB_enc {R : Nat} {sub : Option (List UInt8 → Option (Wr × List UInt8))} (k n : Int) (s : ByteArray) (l : List Wr) (hf : (Wr.mk k n s l).fit R = true) (hi : (Wr.mk k n s l).in64 = true)
  (hsub : 0 < R → ∃ f, sub = some f ∧ ∀ x ∈ l, ∀ t, f (x.enc ++ t) = some (x, t)) (t : List UInt8) : rdB sub ((Wr.mk k n s l).enc ++ t) = some (.mk k n s l, t) := by
 rw [fit_mk] at hf
 rw [in64_mk] at hi
 simp only [Bool.and_eq_true, decide_eq_true_eq] at hi
 rw [enc_mk]
 by_cases h1 : k = 1
 ·subst h1
  simp only [if_true, Bool.and_eq_true, beq_iff_eq] at hf
  obtain rfl := zero_text hf.1
  obtain rfl := List.length_eq_zero_iff.1 hf.2
  rw [if_pos rfl, List.cons_append, rdB, if_pos (by decide), rdN, if_neg (by rw [List.length_append, highs_len]; omega)]
  rw [(take_app (highs_len n 8)).1, (take_app (highs_len n 8)).2, valI_highs8 n hi.1.1 hi.1.2]
 rw [if_neg h1] at hf ⊢
 by_cases h2 : k = 2
 ·subst h2
  simp only [if_true, Bool.and_eq_true, beq_iff_eq, decide_eq_true_eq] at hf
  obtain ⟨⟨rfl, hs⟩, hl⟩ := hf
  obtain rfl := List.length_eq_zero_iff.1 hl
  rw [if_pos rfl, List.cons_append, rdB, if_neg (by decide), if_pos (by decide), rdT, List.append_assoc]
  have hb : beN (highs s.size 4) = s.size := beN_highs4 s.size (by omega)
  have hd : s.data.toList.length = s.size := by simp
  rw [(take_app (highs_len s.size 4)).1, (take_app (highs_len s.size 4)).2, hb, if_neg (by rw [List.length_append, highs_len]; omega), if_neg (by omega), if_neg (by rw [List.length_append]; omega)]
  rw [(take_app hd).1, (take_app hd).2]
 rw [if_neg h2] at hf ⊢
 by_cases h3 : k = 3
 ·subst h3
  simp only [if_true, Bool.and_eq_true, beq_iff_eq, decide_eq_true_eq] at hf
  obtain ⟨⟨⟨rfl, hs⟩, hR⟩, hl, ha⟩ := hf
  obtain rfl := zero_text hs
  obtain ⟨f, rfl, hx⟩ := hsub (by omega)
  rw [List.cons_append, rdB, if_neg (by decide), if_neg (by decide), if_pos (by decide), Option.bind_some, rdL, List.append_assoc]
  have hb : beN (highs l.length 4) = l.length := beN_highs4 l.length (by omega)
  rw [(take_app (highs_len l.length 4)).1, (take_app (highs_len l.length 4)).2, hb, if_neg (by rw [List.length_append, highs_len]; omega), if_neg (by omega), rds_encs f l t hx]
  rfl
 ·rw [if_neg h3] at hf; cases hf
theorem mem_fit {room : Int} {l : List Wr} (h : allFit room l = true) : ∀ x ∈ l, x.fit room = true := by
 induction l with
 | nil => intro x hx; cases hx
 | cons y r ih =>
  rw [allFit_cons, Bool.and_eq_true] at h
  intro x hx
  rcases List.mem_cons.1 hx with rfl | hx
  ·exact h.1
  ·exact ih h.2 x hx
theorem mem_in {l : List Wr} (h : allIn l = true) : ∀ x ∈ l, x.in64 = true := by
 induction l with
 | nil => intro x hx; cases hx
 | cons y r ih =>
  rw [allIn_cons, Bool.and_eq_true] at h
  intro x hx
  rcases List.mem_cons.1 hx with rfl | hx
  ·exact h.1
  ·exact ih h.2 x hx
theorem rd_enc : ∀ (R : Nat) (x : Wr), x.fit R = true → x.in64 = true → ∀ t, rd R (x.enc ++ t) = some (x, t) := by
 intro R
 induction R with
 | zero =>
  intro x hf hi t
  obtain ⟨k, n, s, l⟩ := x
  exact rdB_enc k n s l hf hi (fun h => absurd h (by omega)) t
 | succ R ih =>
  intro x hf hi t
  obtain ⟨k, n, s, l⟩ := x
  refine rdB_enc k n s l hf hi (fun _ => ⟨rd R, rfl, fun y hy t => ?_⟩) t
  have hi' := hi
  rw [in64_mk] at hi'
  simp only [Bool.and_eq_true, decide_eq_true_eq] at hi'
  refine ih y ?_ (mem_in hi'.2 y hy) t
  have hf' := hf
  rw [fit_mk] at hf'
  by_cases h1 : k = 1
  ·subst h1
   simp only [if_true, Bool.and_eq_true, beq_iff_eq] at hf'
   rw [List.length_eq_zero_iff.1 hf'.2] at hy; cases hy
  rw [if_neg h1] at hf'
  by_cases h2 : k = 2
  ·subst h2
   simp only [if_true, Bool.and_eq_true, beq_iff_eq, decide_eq_true_eq] at hf'
   rw [List.length_eq_zero_iff.1 hf'.2] at hy; cases hy
  rw [if_neg h2] at hf'
  by_cases h3 : k = 3
  ·subst h3
   simp only [if_true, Bool.and_eq_true, beq_iff_eq, decide_eq_true_eq] at hf'
   have := mem_fit hf'.2.2 y hy
   rwa [show ((R + 1 : Nat) : Int) - 1 = (R : Int) by omega] at this
  ·rw [if_neg h3] at hf'; cases hf'
end Go.Proofs.YtpcjbjpofcdjeaaGreatDoor.Vw
namespace Go.Proofs.YtpcjbjpofcdjeaaGreatDoor.Vw
open Go Go.RowKit Mm
mutual
def Wr.same : Wr → Wr → Bool
 | .mk k n s l, .mk k' n' s' l' => k == k' && n == n' && s.toList == s'.toList && l.length == l'.length && sameAll l l'
def sameAll : List Wr → List Wr → Bool
 | [], _ => true
 | _ :: _, [] => true
 | x :: r, y :: q => x.same y && sameAll r q
end
end Go.Proofs.YtpcjbjpofcdjeaaGreatDoor.Vw
namespace Go.Proofs.YtpcjbjpofcdjeaaGreatDoor
open Go.RowKit Mm Vw
end Go.Proofs.YtpcjbjpofcdjeaaGreatDoor
namespace Go.Proofs.YtpcjbjpofcdjeaaGreatDoor
open Go.RowKit Wd Mm Vw
theorem Part.read {w w' : World} {g n k r : Nat} {l : List Wr} (h : Part w g l n k) (hg : w.grownBy w' (some r)) (hr : r < g) : Part w' g l n k := by
 obtain ⟨cs, L, hrow, hs, hi⟩ := h
 refine ⟨cs, L, hrow.kept hg (fun e => by have := Option.some.inj e; omega), hs, fun i x hik hx => ?_⟩
 obtain ⟨h0, h1, h2, h3, h4⟩ := hi i x hik hx
 exact ⟨h0, h1, h2, h3, h4.grown hg (fun j e => by cases e; omega)⟩
end Go.Proofs.YtpcjbjpofcdjeaaGreatDoor
namespace Go.Proofs.YtpcjbjpofcdjeaaGreatDoor
open Go.RowKit Wd Mm Vw
section
variable {w w3 : World} {b4 b8 i r : Nat} {v a0 a1 a2 a3 x0 x1 x2 x3 : Value} {T : TypeId}
end
end Go.Proofs.YtpcjbjpofcdjeaaGreatDoor
namespace Go.Proofs.YtpcjbjpofcdjeaaGreatDoor
open Go.RowKit Wd Mm Vw
def get (s : List UInt8) : Option Wr := match rd 6 s with
 | some (x, []) => some x
 | _ => none
end Go.Proofs.YtpcjbjpofcdjeaaGreatDoor
namespace Go.Proofs.YtpcjbjpofcdjeaaGreatDoor
open Go.RowKit Wd Mm Vw
def num (n : Int) : Wr := .mk 1 n ⟨#[]⟩ []
def txt (s : ByteArray) : Wr := .mk 2 0 s []
def lst (l : List Wr) : Wr := .mk 3 0 ⟨#[]⟩ l
theorem get_enc (x : Wr) (h : x.may = true) (hi : x.in64 = true) : get x.enc = some x := by
 have := rd_enc 6 x h hi []
 rw [List.append_nil] at this
 unfold get
 rw [this]
theorem HL.laid {w : World} {g : Nat} {T : TypeId} {cs : Array Value} {B : Nat} (l : List Wr) (h : w.heap[g]? = some (.cells cs T (0, 0))) (hB : B ≤ g) (hn : l.length ≤ 1099511627776) (c : Nat)
  (hc : ∀ i x, l[i]? = some x → cs[i * 4]? = some (.int .i64 x.k) ∧ cs[i * 4 + 1]? = some (.int .i64 x.n) ∧ cs[i * 4 + 2]? = some (.string x.s) ∧ ∃ A m d, cs[i * 4 + 3]? = some (.slice A m d) ∧ HL w B (.slice A m d) x.l) : HL w B (.slice (some ⟨g, 0, none⟩) l.length c) l := by
 have hrow : Row w g T cs := h
 refine .row g 0 c l (fun i => match cs[i * 4 + 3]? with | some v => v | none => .nilIface) hB hrow.lt hn ?_ ?_ ?_ ?_ ?_
 ·intro i x hx; rw [Nat.zero_add, hrow.get]; exact (hc i x hx).1
 ·intro i x hx; rw [Nat.zero_add, hrow.get]; exact (hc i x hx).2.1
 ·intro i x hx; rw [Nat.zero_add, hrow.get]; exact (hc i x hx).2.2.1
 ·intro i x hx
  obtain ⟨A, m, d, h3, _⟩ := (hc i x hx).2.2.2
  simp only [Nat.zero_add, hrow.get, h3]
 ·intro i x hx
  obtain ⟨A, m, d, h3, h4⟩ := (hc i x hx).2.2.2
  simp only [h3]
  exact h4
theorem ErrT.grown {w w' : World} (h : ErrT w) (hg : Gn w w') : ErrT w' := h.keep hg (by simp)
end Go.Proofs.YtpcjbjpofcdjeaaGreatDoor
namespace Go.Proofs.YtpcjbjpofcdjeaaGreatDoor
open Go.RowKit Wd Mm Vw
theorem below_of {w w' : World} (h : Gn w w') : Below w.heap.size w w' := gb_below h (Nat.le_refl _)
theorem row_bytes {w : World} {g : Nat} {t : TypeId} {l : List UInt8} (h : Row w g t (l.map w8).toArray) : ∀ j (hj : j < l.length), w.cell? ((⟨g, 0, none⟩ : Addr).add j) = some (.int .u8 (l[j].toNat : Int)) := fun j hj => by
 have hadd : (⟨g, 0, none⟩ : Addr).add j = ⟨g, j, none⟩ := by unfold Addr.add; split <;> simp_all
 rw [hadd]
 exact h.at_ (by simp [hj, w8])
theorem u8_of {a : Int} (h : (Lit.int .u8 a).wf = true) : 0 ≤ a ∧ a ≤ 255 := by
 have h1 : IntKind.u8.min = 0 := by decide
 have h2 : IntKind.u8.max = 255 := by decide
 simp only [Lit.wf, h1, h2, Bool.and_eq_true, decide_eq_true_eq] at h
 exact h
def Held8 (w : World) (a : Option Addr) (len : Nat) : Prop := 0 < len → ∃ g o, a = some ⟨g, o, none⟩ ∧ g < w.heap.size ∧ ∀ i, i < len → ∃ b : Nat, b ≤ 255 ∧ w.cell? ⟨g, o + i, none⟩ = some (.int .u8 (b : Int))
theorem Held8.keep {w w' : World} {a : Option Addr} {n : Nat} (h : Held8 w a n) (hg : Gn w w') : Held8 w' a n := fun hn => by
 obtain ⟨g, o, e, hl, hc⟩ := h hn
 exact ⟨g, o, e, Nat.lt_of_lt_of_le hl hg.size, fun i hi => by
  have := hg.block g hl (by simp)
  rw [World.cell?_of_block (w := w) (a := ⟨g, o + i, none⟩) this]
  exact hc i hi⟩
theorem num_in (n : Int) (h : -9223372036854775808 ≤ n ∧ n ≤ 9223372036854775807) : (num n).in64 = true := by
 unfold num; rw [in64_mk, allIn_nil, decide_eq_true h.1, decide_eq_true h.2]; rfl
theorem txt_in (s : ByteArray) : (txt s).in64 = true := by
 unfold txt; rw [in64_mk, allIn_nil]; rfl
end Go.Proofs.YtpcjbjpofcdjeaaGreatDoor
namespace Go.Proofs.YtpcjbjpofcdjeaaGreatDoor
open Go.RowKit Wd Mm Vw
def flat (ps : List (Wr × Value)) : List Value := ps.flatMap fun p => [.int .i64 p.1.k, .int .i64 p.1.n, .string p.1.s, p.2]
theorem flat_cons (p : Wr × Value) (ps : List (Wr × Value)) : flat (p :: ps) = [.int .i64 p.1.k, .int .i64 p.1.n, .string p.1.s, p.2] ++ flat ps := rfl
theorem flat_len (ps : List (Wr × Value)) : (flat ps).length = ps.length * 4 := by
 induction ps with
 | nil => rfl
 | cons p ps ih => rw [flat_cons, List.length_append, ih, List.length_cons]; simp; omega
theorem flat_snoc (ps : List (Wr × Value)) (p : Wr × Value) : flat (ps ++ [p]) = flat ps ++ [.int .i64 p.1.k, .int .i64 p.1.n, .string p.1.s, p.2] := by
 unfold flat; rw [List.flatMap_append]; rfl
theorem flat_get (ps : List (Wr × Value)) (i : Nat) (p : Wr × Value) (h : ps[i]? = some p) :
  (flat ps)[i * 4]? = some (.int .i64 p.1.k) ∧ (flat ps)[i * 4 + 1]? = some (.int .i64 p.1.n) ∧ (flat ps)[i * 4 + 2]? = some (.string p.1.s) ∧ (flat ps)[i * 4 + 3]? = some p.2 := by
 induction ps generalizing i with
 | nil => simp at h
 | cons q ps ih =>
  cases i with
  | zero =>
   obtain rfl : q = p := by simpa using h
   exact ⟨rfl, rfl, rfl, rfl⟩
  | succ i =>
   obtain ⟨h0, h1, h2, h3⟩ := ih i (by simpa using h)
   rw [flat_cons]
   refine ⟨?_, ?_, ?_, ?_⟩
   ·rw [List.getElem?_append_right (by simp; omega), show (i + 1) * 4 - [Value.int .i64 q.1.k, .int .i64 q.1.n, .string q.1.s, q.2].length = i * 4 by simp; omega]; exact h0
   ·rw [List.getElem?_append_right (by simp; omega), show (i + 1) * 4 + 1 - [Value.int .i64 q.1.k, .int .i64 q.1.n, .string q.1.s, q.2].length = i * 4 + 1 by simp; omega]; exact h1
   ·rw [List.getElem?_append_right (by simp; omega), show (i + 1) * 4 + 2 - [Value.int .i64 q.1.k, .int .i64 q.1.n, .string q.1.s, q.2].length = i * 4 + 2 by simp; omega]; exact h2
   ·rw [List.getElem?_append_right (by simp; omega), show (i + 1) * 4 + 3 - [Value.int .i64 q.1.k, .int .i64 q.1.n, .string q.1.s, q.2].length = i * 4 + 3 by simp; omega]; exact h3
def Own (B : Nat) (v : Value) (ps : List (Wr × Value)) (w : World) : Prop := w.ownsRow B 107 4 v ps.length (flat ps)
theorem Own.kept {B : Nat} {v : Value} {ps : List (Wr × Value)} {w w' : World} (h : Own B v ps w) (hg : Gn w w') : Own B v ps w' := by
 refine World.ownsRow.kept h hg ?_
 cases hv : v.ownBlock with
 | none => exact .inl rfl
 | some k => exact .inr (by simp)
theorem Own.nil (B : Nat) (w : World) : Own B (.slice none 0 0) [] w := World.ownsRow_nil w B _ 4
theorem Own.slice {B : Nat} {v : Value} {ps : List (Wr × Value)} {w : World} (h : Own B v ps w) : ∃ A c, v = .slice A ps.length c := by
 rcases h.2 with ⟨rfl, h0⟩ | ⟨g, cap, cur, rfl, _⟩
 ·exact ⟨none, 0, by rw [h0]⟩
 ·exact ⟨_, _, rfl⟩
theorem Own.list {B : Nat} {v : Value} {ps : List (Wr × Value)} {w : World} (h : Own B v ps w) (hn : ps.length ≤ 1099511627776) (hp : ∀ p ∈ ps, HL w 0 p.2 p.1.l) : HL w 0 v (ps.map Prod.fst) := by
 have hcells := fun (g : Nat) (hg : v.ownBlock = some g) => World.ownsRow.cells h hg
 rcases h.2 with ⟨rfl, h0⟩ | ⟨g, cap, cur, rfl, hB, hg, _⟩
 ·rw [List.length_eq_zero_iff.1 h0]; exact .nil _ _
 ·have hc : ∀ j u, (flat ps)[j]? = some u → w.cell? ⟨g, 0 + j, none⟩ = some u := fun j u hu => by
   have := hcells g rfl j u hu
   have hadd : (⟨g, 0, none⟩ : Addr).add j = ⟨g, 0 + j, none⟩ := by unfold Addr.add; split <;> simp_all
   rwa [hadd] at this
  have hl : (ps.map Prod.fst).length = ps.length := List.length_map _
  have key : ∀ (i : Nat) (x : Wr), (ps.map Prod.fst)[i]? = some x → ∃ p : Wr × Value, ps[i]? = some p ∧ p.1 = x := fun i x hx => by
   rw [List.getElem?_map] at hx
   obtain ⟨p, h1, h2⟩ := Option.map_eq_some_iff.1 hx
   exact ⟨p, h1, h2⟩
  rw [← hl]
  refine .row g 0 cap _ (fun i => match ps[i]? with | some p => p.2 | none => .nilIface) (Nat.zero_le _) (Array.getElem?_eq_some_iff.1 hg).1 (by rw [hl]; exact hn) ?_ ?_ ?_ ?_ ?_
  ·intro i x hx; obtain ⟨p, h1, rfl⟩ := key i x hx; exact hc _ _ (flat_get ps i p h1).1
  ·intro i x hx; obtain ⟨p, h1, rfl⟩ := key i x hx; exact hc _ _ (flat_get ps i p h1).2.1
  ·intro i x hx; obtain ⟨p, h1, rfl⟩ := key i x hx; exact hc _ _ (flat_get ps i p h1).2.2.1
  ·intro i x hx; obtain ⟨p, h1, rfl⟩ := key i x hx; simp only [h1]; exact hc _ _ (flat_get ps i p h1).2.2.2
  ·intro i x hx; obtain ⟨p, h1, rfl⟩ := key i x hx; simp only [h1]; exact hp p (List.mem_of_getElem? h1)
theorem one4 (k n : Int) (s : ByteArray) (A : Option Addr) (m c : Nat) : ∀ u ∈ [Value.int .i64 k, .int .i64 n, .string s, .slice A m c], u.oneCell' = true := by
 intro u hu
 simp only [List.mem_cons, List.not_mem_nil, or_false] at hu
 rcases hu with rfl | rfl | rfl | rfl <;> rfl
theorem own_slice4 {w : World} {B : Nat} {e : TypeId} {v : Value} {n : Nat} {xs : List Value} (h : w.ownsRow B e 4 v n xs) : ∃ A m c, v = .slice A m c := by
 rcases h.2 with ⟨rfl, _⟩ | ⟨g, cap, cur, rfl, _⟩
 ·exact ⟨_, _, _, rfl⟩
 ·exact ⟨_, _, _, rfl⟩
def HeldT (w : World) (a : Option Addr) (len : Nat) (zs : List ByteArray) : Prop := 0 < len → ∃ g o, a = some ⟨g, o, none⟩ ∧ g < w.heap.size ∧ ∀ i, i < len → w.cell? ⟨g, o + i, none⟩ = some (.string (zs.getD i ByteArray.empty))
theorem HeldT.keep {w w' : World} {a : Option Addr} {n : Nat} {zs : List ByteArray} (h : HeldT w a n zs) (hg : Gn w w') : HeldT w' a n zs := fun hn => by
 obtain ⟨g, o, e, hl, hc⟩ := h hn
 refine ⟨g, o, e, Nat.lt_of_lt_of_le hl hg.size, fun i hi => ?_⟩
 have := hg.block g hl (by simp)
 rw [World.cell?_of_block (w := w) (a := ⟨g, o + i, none⟩) this]
 exact hc i hi
end Go.Proofs.YtpcjbjpofcdjeaaGreatDoor
namespace Go.Proofs.YtpcjbjpofcdjeaaGreatDoor
open Go.RowKit Wd Mm Vw
theorem lst_len (xs : List Wr) : (lst xs).enc.length = 5 + (encs xs).length := by
 unfold lst; rw [enc_mk, if_neg (by decide), if_neg (by decide), List.length_cons, List.length_append, highs_len]; omega
theorem allIn_of : ∀ xs : List Wr, (∀ x ∈ xs, x.in64 = true) → allIn xs = true
 | [], _ => allIn_nil
 | x :: r, h => by
  rw [allIn_cons, h x List.mem_cons_self, allIn_of r (fun y hy => h y (List.mem_cons_of_mem _ hy))]; rfl
theorem lst_in (xs : List Wr) (h : ∀ x ∈ xs, x.in64 = true) : (lst xs).in64 = true := by
 unfold lst; rw [in64_mk, allIn_of xs h]; rfl
inductive HP (w : World) (P : Nat → Prop) : Value → List Wr → Prop
 | nil (A : Option Addr) (c : Nat) : HP w P (.slice A 0 c) []
 | row (g o c : Nat) (l : List Wr) (L : Nat → Value) (hB : P g) (hg : g < w.heap.size) (hn : l.length ≤ 1099511627776)
   (hk : ∀ i x, l[i]? = some x → w.cell? ⟨g, o + i * 4, none⟩ = some (.int .i64 x.k))
   (hv : ∀ i x, l[i]? = some x → w.cell? ⟨g, o + i * 4 + 1, none⟩ = some (.int .i64 x.n))
   (hs : ∀ i x, l[i]? = some x → w.cell? ⟨g, o + i * 4 + 2, none⟩ = some (.string x.s))
   (hL : ∀ i x, l[i]? = some x → w.cell? ⟨g, o + i * 4 + 3, none⟩ = some (L i))
   (hl : ∀ i x, l[i]? = some x → HP w P (L i) x.l) : HP w P (.slice (some ⟨g, o, none⟩) l.length c) l
theorem HP.keep {w w' : World} {P Q : Nat → Prop} {v : Value} {l : List Wr} (h : HP w P v l) (hsz : w.heap.size ≤ w'.heap.size) (hb : ∀ g, P g → g < w.heap.size → w'.heap[g]? = w.heap[g]? ∧ Q g) : HP w' Q v l := by
 induction h with
 | nil A c => exact .nil A c
 | row g o c l L hB hg hn hk hv hs hL hl ih =>
  obtain ⟨he, hq⟩ := hb g hB hg
  refine .row g o c l L hq (Nat.lt_of_lt_of_le hg hsz) hn ?_ ?_ ?_ ?_ ih
  ·intro i x hx; rw [cell_of_heap he]; exact hk i x hx
  ·intro i x hx; rw [cell_of_heap he]; exact hv i x hx
  ·intro i x hx; rw [cell_of_heap he]; exact hs i x hx
  ·intro i x hx; rw [cell_of_heap he]; exact hL i x hx
theorem HP.list {w : World} {P : Nat → Prop} {v : Value} {l : List Wr} (h : HP w P v l) : HL w 0 v l := by
 induction h with
 | nil A c => exact .nil A c
 | row g o c l L hB hg hn hk hv hs hL hl ih => exact .row g o c l L (Nat.zero_le _) hg hn hk hv hs hL ih
theorem HP.of {w : World} {B : Nat} {v : Value} {l : List Wr} (h : HL w B v l) : HP w (fun g => B ≤ g) v l := by
 induction h with
 | nil A c => exact .nil A c
 | row g o c l L hB hg hn hk hv hs hL hl ih => exact .row g o c l L hB hg hn hk hv hs hL ih
abbrev Off (v : Value) (g : Nat) : Prop := some g ≠ v.ownBlock
theorem HP.kept {w w' : World} {P : Nat → Prop} {v : Value} {l : List Wr} (h : HP w P v l) (hg : Gn w w') : HP w' P v l := h.keep hg.size (fun g hP hl => ⟨hg.block g hl (by simp), hP⟩)
theorem HP.after {w w' : World} {u u' v : Value} {l : List Wr} (h : HP w (Off u) v l) (hg : w.grownBy w' u.ownBlock) (ha : u'.ownBlock = u.ownBlock ∨ u'.ownBlock = some w.heap.size) : HP w' (Off u') v l := by
 refine h.keep hg.size (fun g hP hl => ⟨hg.block g hl hP, ?_⟩)
 show some g ≠ u'.ownBlock
 rcases ha with e | e
 ·rw [e]; exact hP
 ·rw [e]; intro e2; have := Option.some.inj e2; omega
def Made (w : World) (N : Nat) (e : Ending) (w' : World) : Prop := ∃ (x : Wr) (A : Option Addr) (c : Nat), e = .returned (.agg #[.int .i64 x.k, .int .i64 x.n, .string x.s, .slice A x.l.length c]) ∧ HL w' w.heap.size (.slice A x.l.length c) x.l ∧ x.in64 = true ∧ x.enc.length ≤ N ∧ Gn w w'
theorem Held8.part {w : World} {g o len : Nat} (h : Held8 w (some ⟨g, o, none⟩) len) (h0 : 0 < len) (i m : Nat) (hi : i + m ≤ len) : Held8 w (some ⟨g, o + i, none⟩) m := fun hm => by
 obtain ⟨g', o', e, hl, hc⟩ := h h0
 cases e
 refine ⟨g, o + i, rfl, hl, fun j hj => ?_⟩
 obtain ⟨b, hb, hc'⟩ := hc (i + j) (by omega)
 exact ⟨b, hb, by rw [Nat.add_assoc]; exact hc'⟩
theorem Made.more {w w' : World} {N N' : Nat} {e : Ending} (h : Made w N e w') (hN : N ≤ N') : Made w N' e w' := by
 obtain ⟨x, A, c, h1, h2, h3, h4, h5⟩ := h
 exact ⟨x, A, c, h1, h2, h3, by omega, h5⟩
end Go.Proofs.YtpcjbjpofcdjeaaGreatDoor
namespace Go.Proofs.YtpcjbjpofcdjeaaGreatDoor
open Go.RowKit Wd Mm Vw
end Go.Proofs.YtpcjbjpofcdjeaaGreatDoor
namespace Go.Proofs.YtpcjbjpofcdjeaaGreatDoor
open Go.RowKit Wd Mm Vw
end Go.Proofs.YtpcjbjpofcdjeaaGreatDoor
namespace Go.Proofs.YtpcjbjpofcdjeaaGreatDoor
open Go.RowKit Wd Mm Vw
theorem start (s : ByteArray) : s.data.toList.drop 0 = s.data.toList := rfl
end Go.Proofs.YtpcjbjpofcdjeaaGreatDoor
namespace Go.Proofs.YtpcjbjpofcdjeaaGreatDoor
open Go.RowKit Mm Vw
theorem right_num (n room : Int) (s : ByteArray) (A : Option Addr) (len c : Nat) (w : World) :
  Calls Tryz.prog 149 #[.agg #[.int .i64 1, .int .i64 n, .string s, .slice A len c], .int .i64 room] w fun e w' => e = .returned (.bool (s.size == 0 && len == 0)) ∧ Gn w w' := by
 by_cases hs : s.size = 0
 ·obtain rfl := size_zero hs
  clear hs
  go_enter Tryz.func149, Tryz.ntmps149
  go_wp2_with fail
  go_ret
  exact ⟨ret_bool (cast_zero len), gb_alloc (gb_refl _ _) _⟩
 ·have h1 := list_ne hs
  have h2 : (s.size == 0) = false := by simpa using hs
  rw [h2]
  clear h2 hs
  go_enter Tryz.func149, Tryz.ntmps149
  go_wp2_with fail
  go_ret
  exact ⟨ret_bool (by simp), gb_alloc (gb_refl _ _) _⟩
theorem right_text (n room : Int) (s : ByteArray) (A : Option Addr) (len c : Nat) (w : World) :
  Calls Tryz.prog 149 #[.agg #[.int .i64 2, .int .i64 n, .string s, .slice A len c], .int .i64 room] w fun e w' => e = .returned (.bool (n == 0 && decide (s.size ≤ 1048576) && len == 0)) ∧ Gn w w' := by
 by_cases hn : n = 0
 ·subst hn
  by_cases hl : len = 0
  ·subst hl
   by_cases hs : s.size ≤ 1048576
   ·have d1 : decide ((s.size : Int) ≤ 1048576) = true := dcT
    have d2 : decide (s.size ≤ 1048576) = true := decide_eq_true hs
    rw [d2]
    clear d2
    go_enter Tryz.func149, Tryz.ntmps149
    go_wp2_with fail
    go_ret
    exact ⟨rfl, gb_alloc (gb_refl _ _) _⟩
   ·have d1 : decide ((s.size : Int) ≤ 1048576) = false := dcF
    have d2 : decide (s.size ≤ 1048576) = false := decide_eq_false hs
    rw [d2]
    clear d2 hs
    go_enter Tryz.func149, Tryz.ntmps149
    go_wp2_with fail
    go_ret
    exact ⟨rfl, gb_alloc (gb_refl _ _) _⟩
  ·have h2 : ((len : Int) == 0) = false := by simpa using hl
   have h3 : (len == 0) = false := by simpa using hl
   rw [h3, Bool.and_false]
   clear h3 hl
   go_enter Tryz.func149, Tryz.ntmps149
   go_wp2_with fail
   go_ret
   exact ⟨rfl, gb_alloc (gb_refl _ _) _⟩
 ·have h2 : (n == 0) = false := by simpa using hn
  rw [h2]
  clear hn
  go_enter Tryz.func149, Tryz.ntmps149
  go_wp2_with fail
  go_ret
  exact ⟨ret_bool (by simp), gb_alloc (gb_refl _ _) _⟩
theorem right_none (k n room : Int) (s : ByteArray) (A : Option Addr) (len c : Nat) (w : World) (h1 : k ≠ 1) (h2 : k ≠ 2) (h3 : k ≠ 3) :
  Calls Tryz.prog 149 #[.agg #[.int .i64 k, .int .i64 n, .string s, .slice A len c], .int .i64 room] w fun e w' => e = .returned (.bool false) ∧ Gn w w' := by
 have t1 : (k == 1) = false := by simpa using h1
 have t2 : (k == 2) = false := by simpa using h2
 have t3 : (k == 3) = false := by simpa using h3
 clear h1 h2 h3
 go_enter Tryz.func149, Tryz.ntmps149
 go_wp2_with fail
 go_ret
 exact ⟨ret_bool (by simp), gb_alloc (gb_refl _ _) _⟩
theorem right_listno (n room : Int) (s : ByteArray) (A : Option Addr) (len c : Nat) (w : World) (h : (headB n s room && decide (len ≤ 65536)) = false) :
  Calls Tryz.prog 149 #[.agg #[.int .i64 3, .int .i64 n, .string s, .slice A len c], .int .i64 room] w fun e w' => e = .returned (.bool false) ∧ Gn w w' := by
 unfold headB at h
 by_cases hn : n = 0
 ·subst hn
  by_cases hs : s.size = 0
  ·obtain rfl := size_zero hs
   by_cases hl : len ≤ 65536
   ·have d1 : decide (room < 1) = true := decide_eq_true (by
     rcases Int.lt_or_le 0 room with hp | hp
     ·exfalso
      rw [decide_eq_true hp, decide_eq_true hl] at h
      simp [ByteArray.size] at h
     ·omega)
    have d2 : decide ((65536 : Int) < (len : Int)) = false := dcF
    clear h hs hl
    go_enter Tryz.func149, Tryz.ntmps149
    go_wp2_with fail
    go_ret
    exact ⟨ret_bool (by simp), gb_alloc (gb_refl _ _) _⟩
   ·have d2 : decide ((65536 : Int) < (len : Int)) = true := dcT
    clear h hs hl
    go_enter Tryz.func149, Tryz.ntmps149
    go_wp2_with fail
    go_ret
    exact ⟨ret_bool (by simp), gb_alloc (gb_refl _ _) _⟩
  ·have h1 := list_ne hs
   clear hs h
   go_enter Tryz.func149, Tryz.ntmps149
   go_wp2_with fail
   go_ret
   exact ⟨ret_bool (by simp), gb_alloc (gb_refl _ _) _⟩
 ·have h2 : (n == 0) = false := by simpa using hn
  have h3 : (n != 0) = true := by simpa using hn
  clear hn h
  go_enter Tryz.func149, Tryz.ntmps149
  go_wp2_with fail
  go_ret
  exact ⟨ret_bool (by simp), gb_alloc (gb_refl _ _) _⟩
theorem right_goes (room : Int) (l : List Wr) (hr1 : 0 < room) (hr2 : room ≤ 100) (hl : l.length ≤ 65536) (va : Value) (w : World) (ha : HL w 0 va l)
  (ih : ∀ x ∈ l, ∀ (L : Value) (w : World), HL w 0 L x.l → Calls Tryz.prog 149 #[.agg #[.int .i64 x.k, .int .i64 x.n, .string x.s, L], .int .i64 (room - 1)] w fun e w' => e = .returned (.bool (x.fit (room - 1))) ∧ Gn w w') :
  Calls Tryz.prog 149 #[.agg #[.int .i64 3, .int .i64 0, .string ⟨#[]⟩, va], .int .i64 room] w fun e w' => e = .returned (.bool (allFit (room - 1) l)) ∧ Gn w w' := by
 obtain ⟨A, c, rfl⟩ := ha.slice
 have d1 : decide (room < 1) = false := dcF
 obtain ⟨N, HN⟩ : ∃ N : Nat, Hid (N = l.length) := ⟨_, rfl⟩
 have Ha := qj ha
 have Hih := qj ih
 clear ha ih
 rw [← HN.out] at Ha hl ⊢
 have d2 : decide ((65536 : Int) < (N : Int)) = false := dcF
 go_enter Tryz.func149, Tryz.ntmps149
 go_wp2_with fail
 go_loopw [5] (fun i wr => ∃ j : Nat, j ≤ N ∧ i = .int .i64 j ∧ Hid (allFit (room - 1) l = allFit (room - 1) (l.drop j)) ∧ Hid ((w.alloc (.cells #[.int .i64 3, .int .i64 0, .string ⟨#[]⟩, .slice A N c] 107)).grownBy wr none)) (fun i _ => N - (intOf i).toNat)
 case atStart => exact ⟨0, Nat.zero_le _, rfl, rfl, gb_refl _ _⟩
 case round =>
  obtain ⟨j, hj, rfl, Hs, Hg⟩ := hrel
  have hgw := gb_none (gb_alloc (gb_refl w none) (.cells #[.int .i64 3, .int .i64 0, .string ⟨#[]⟩, .slice A N c] 107)) Hg.out
  have Hgw := qj hgw
  obtain ⟨⟨b0, b1, b2, b3⟩, _, hbl⟩ := box4 (show wr.heap[w.heap.size]? = some (.cells #[.int .i64 3, .int .i64 0, .string ⟨#[]⟩, .slice A N c] 107 (0, 0)) from (Hg.out.block _ (by simp) (by simp)).trans (heap_alloc_new w _))
  clear hgw b0 b1 b2
  by_cases hlt : j < N
  ·have z1 : decide (j < N) = true := decide_eq_true hlt
   obtain ⟨x, hx⟩ : ∃ x, l[j]? = some x := ⟨_, List.getElem?_eq_getElem (by rw [← HN.out]; exact hlt)⟩
   obtain ⟨g, o, B, m, rfl, _, hgs, c0, c1, c2', c3, hxl⟩ := (Ha.out.kept Hgw.out).item hx
   have Hx := qj hx
   have Hxl := qj hxl
   have hd := allFit_drop (room - 1) l j x hx
   have Hd := qj hd
   clear hx hxl hd
   go_wp2_with fail
   refine (Hih.out x (List.mem_of_getElem? Hx.out) _ _ Hxl.out).mono ?_
   rintro e w2 ⟨rfl, gg⟩
   have Hg2 := qj (gb_none Hg.out gg)
   have Hgw2 := qj (gb_none Hgw.out gg)
   clear gg
   cases hxy : x.fit (room - 1) with
   | true =>
    have Hd2 : Hid (allFit (room - 1) l = allFit (room - 1) (l.drop (j + 1))) := by
     show _ = _
     rw [Hs.out, Hd.out, hxy, Bool.true_and]
    clear hxy
    go_wp2_with fail
    go_roundw
    case rel => exact ⟨j + 1, by omega, by go_num, Hd2, Hg2⟩
    case measure => simp [intOf]; omega
   | false =>
    have Hd2 : Hid (allFit (room - 1) l = false) := by
     show _ = _
     rw [Hs.out, Hd.out, hxy, Bool.false_and]
    clear hxy
    go_wp2_with fail
    go_ret
    exact ⟨ret_bool Hd2.out.symm, Hgw2.out⟩
  ·have z1 : decide (j < N) = false := decide_eq_false hlt
   have Hd2 : Hid (allFit (room - 1) l = true) := by
    show _ = _
    rw [Hs.out, List.drop_eq_nil_of_le (by rw [← HN.out]; omega), allFit_nil]
   clear hlt
   go_wp2_with fail
   go_ret
   exact ⟨ret_bool Hd2.out.symm, Hgw.out⟩
theorem right_any : ∀ (x : Wr) (room : Int), -100 ≤ room → room ≤ 100 → ∀ (L : Value) (w : World), HL w 0 L x.l →
  Calls Tryz.prog 149 #[.agg #[.int .i64 x.k, .int .i64 x.n, .string x.s, L], .int .i64 room] w fun e w' => e = .returned (.bool (x.fit room)) ∧ Gn w w'
 | .mk k n s l, room, hr1, hr2, L, w, hL => by
  have hL' : HL w 0 L l := hL
  obtain ⟨A, c, rfl⟩ := hL'.slice
  show Calls Tryz.prog 149 #[.agg #[.int .i64 k, .int .i64 n, .string s, .slice A l.length c], .int .i64 room] w fun e w' => e = .returned (.bool ((Wr.mk k n s l).fit room)) ∧ Gn w w'
  rw [fit_mk]
  by_cases h1 : k = 1
  ·subst h1; rw [if_pos rfl]; exact right_num n room s A l.length c w
  by_cases h2 : k = 2
  ·subst h2; rw [if_neg (by decide), if_pos rfl]; exact right_text n room s A l.length c w
  by_cases h3 : k = 3
  ·subst h3; rw [if_neg (by decide), if_neg (by decide), if_pos rfl, ← Bool.and_assoc]
   cases hb : (headB n s room && decide (l.length ≤ 65536)) with
   | false =>
    have hb' := hb
    unfold headB at hb'
    rw [hb', Bool.false_and]
    exact right_listno n room s A l.length c w hb
   | true =>
    have hb' := hb
    unfold headB at hb'
    rw [hb', Bool.true_and]
    simp only [Bool.and_eq_true, beq_iff_eq, decide_eq_true_eq] at hb'
    obtain ⟨⟨⟨rfl, hs⟩, hr⟩, hl⟩ := hb'
    obtain rfl := size_zero hs
    exact right_goes room l hr hr2 hl _ w hL' (fun x hx L w hxl => right_any x (room - 1) (by omega) (by omega) L w hxl)
  ·rw [if_neg h1, if_neg h2, if_neg h3]; exact right_none k n room s A l.length c w h1 h2 h3
termination_by x => SizeOf.sizeOf x
decreasing_by
 have := List.sizeOf_lt_of_mem hx
 simp
 omega
end Go.Proofs.YtpcjbjpofcdjeaaGreatDoor
namespace Go.Proofs.YtpcjbjpofcdjeaaGreatDoor
open Go.RowKit Mm Vw
theorem deep_none (k n room : Int) (s : ByteArray) (A : Option Addr) (len c : Nat) (w : World) (h3 : k ≠ 3) :
  Calls Tryz.prog 150 #[.agg #[.int .i64 k, .int .i64 n, .string s, .slice A len c], .int .i64 room] w fun e w' => e = .returned (.int .i64 0) ∧ Gn w w' := by
 have t3 : (k == 3) = false := by simpa using h3
 have t4 : (k != 3) = true := by simpa using h3
 clear h3
 go_enter Tryz.func150, Tryz.ntmps150
 go_wp2_with fail
 go_ret
 exact ⟨rfl, gb_alloc (gb_refl _ _) _⟩
theorem deep_goes (n room : Int) (s : ByteArray) (l : List Wr) (hr1 : 0 < room) (hr2 : room ≤ 100) (va : Value) (w : World) (ha : HL w 0 va l)
  (ih : ∀ x ∈ l, ∀ (L : Value) (w : World), HL w 0 L x.l → Calls Tryz.prog 150 #[.agg #[.int .i64 x.k, .int .i64 x.n, .string x.s, L], .int .i64 (room - 1)] w fun e w' => (∃ d : Int, 0 ≤ d ∧ d ≤ room - 2 ∧ e = .returned (.int .i64 d)) ∧ Gn w w') :
  Calls Tryz.prog 150 #[.agg #[.int .i64 3, .int .i64 n, .string s, va], .int .i64 room] w fun e w' => (∃ d : Int, 0 ≤ d ∧ d ≤ max 1 (room - 1) ∧ e = .returned (.int .i64 d)) ∧ Gn w w' := by
 obtain ⟨A, c, rfl⟩ := ha.slice
 have d1 : decide (0 < room) = true := dcT
 have hlen := ha.len
 obtain ⟨N, HN⟩ : ∃ N : Nat, Hid (N = l.length) := ⟨_, rfl⟩
 have Ha := qj ha
 have Hih := qj ih
 clear ha ih
 rw [← HN.out] at Ha hlen ⊢
 go_enter Tryz.func150, Tryz.ntmps150
 go_wp2_with fail
 go_loopw [6, 5] (fun i m wr => ∃ (j : Nat) (d : Int), j ≤ N ∧ i = .int .i64 j ∧ m = .int .i64 d ∧ 1 ≤ d ∧ d ≤ max 1 (room - 1) ∧ Hid ((w.alloc (.cells #[.int .i64 3, .int .i64 n, .string s, .slice A N c] 107)).grownBy wr none)) (fun i _ _ => N - (intOf i).toNat)
 case atStart => exact ⟨0, 1, Nat.zero_le _, rfl, rfl, Int.le_refl _, by omega, gb_refl _ _⟩
 case round =>
  obtain ⟨j, d, hj, rfl, rfl, hd1, hd2, Hg⟩ := hrel
  have hgw := gb_none (gb_alloc (gb_refl w none) (.cells #[.int .i64 3, .int .i64 n, .string s, .slice A N c] 107)) Hg.out
  have Hgw := qj hgw
  obtain ⟨⟨b0, b1, b2, b3⟩, _, hbl⟩ := box4 (show wr.heap[w.heap.size]? = some (.cells #[.int .i64 3, .int .i64 n, .string s, .slice A N c] 107 (0, 0)) from (Hg.out.block _ (by simp) (by simp)).trans (heap_alloc_new w _))
  clear hgw b0 b1 b2
  by_cases hlt : j < N
  ·have z1 : decide (j < N) = true := decide_eq_true hlt
   obtain ⟨x, hx⟩ : ∃ x, l[j]? = some x := ⟨_, List.getElem?_eq_getElem (by rw [← HN.out]; exact hlt)⟩
   obtain ⟨g, o, B, m, rfl, _, hgs, c0, c1, c2', c3, hxl⟩ := (Ha.out.kept Hgw.out).item hx
   have Hx := qj hx
   have Hxl := qj hxl
   clear hx hxl
   go_wp2_with fail
   refine (Hih.out x (List.mem_of_getElem? Hx.out) _ _ Hxl.out).mono ?_
   rintro e w2 ⟨⟨q, hq1, hq2, rfl⟩, gg⟩
   have Hg2 := qj (gb_none Hg.out gg)
   have Hgw2 := qj (gb_none Hgw.out gg)
   clear gg
   go_wp2_with fail
   go_roundw
   case rel => exact ⟨j + 1, max d (1 + q), by omega, by go_num, by go_num, by omega, by omega, Hg2⟩
   case measure => simp [intOf]; omega
  ·have z1 : decide (j < N) = false := decide_eq_false hlt
   clear hlt
   go_wp2_with fail
   go_ret
   exact ⟨⟨d, by omega, hd2, rfl⟩, Hgw.out⟩
theorem deep_fit : ∀ (x : Wr) (lim : Int), 1 ≤ lim → lim ≤ 100 → x.fit (lim - 1) = true → ∀ (L : Value) (w : World), HL w 0 L x.l →
  Calls Tryz.prog 150 #[.agg #[.int .i64 x.k, .int .i64 x.n, .string x.s, L], .int .i64 lim] w fun e w' => (∃ d : Int, 0 ≤ d ∧ d ≤ lim - 1 ∧ e = .returned (.int .i64 d)) ∧ Gn w w'
 | .mk k n s l, lim, hr1, hr2, hf, L, w, hL => by
  have hL' : HL w 0 L l := hL
  obtain ⟨A, c, rfl⟩ := hL'.slice
  show Calls Tryz.prog 150 #[.agg #[.int .i64 k, .int .i64 n, .string s, .slice A l.length c], .int .i64 lim] w _
  by_cases h3 : k = 3
  ·subst h3
   rw [fit_mk, if_neg (by decide), if_neg (by decide), if_pos rfl] at hf
   simp only [Bool.and_eq_true, decide_eq_true_eq] at hf
   obtain ⟨⟨_, hp⟩, _, ha⟩ := hf
   refine (deep_goes n lim s l (by omega) hr2 _ w hL' (fun x hx L w hxl => (deep_fit x (lim - 1) (by omega) (by omega) (all_fit ha x hx) L w hxl).mono ?_)).mono ?_
   ·rintro e w2 ⟨⟨d, h1, h2, rfl⟩, g⟩; exact ⟨⟨d, h1, by omega, rfl⟩, g⟩
   ·rintro e w2 ⟨⟨d, h1, h2, rfl⟩, g⟩; exact ⟨⟨d, h1, by omega, rfl⟩, g⟩
  ·refine (deep_none k n lim s A l.length c w h3).mono ?_
   rintro e w2 ⟨rfl, g⟩
   exact ⟨⟨0, by omega, by omega, rfl⟩, g⟩
termination_by x => SizeOf.sizeOf x
decreasing_by
 have := List.sizeOf_lt_of_mem hx
 simp
 omega
theorem maywire_any (x : Wr) (L : Value) (w : World) (h : HL w 0 L x.l) :
  Calls Tryz.prog 119 #[.agg #[.int .i64 x.k, .int .i64 x.n, .string x.s, L]] w fun e w' => e = .returned (.bool x.may) ∧ Gn w w' := by
 have Hf := qj (fun w hL => right_any x 6 (by omega) (by omega) L w hL)
 have Hd := qj (fun h6 w hL => deep_fit x 7 (by omega) (by omega) h6 L w hL)
 have HH := qj h
 obtain ⟨A, c, rfl⟩ := h.slice
 clear h
 generalize Hm : x.may = r
 have Hm' : x.fit 6 = r := Hm
 rw [Hm'] at Hf
 have Hm2 := qj Hm'
 clear Hm Hm'
 cases r with
 | false =>
  go_enter Tryz.func119, Tryz.ntmps119
  go_wp2_with fail
  refine (Hf.out _ (HH.out.kept (gb_alloc (gb_refl _ _) _))).mono ?_
  rintro e w2 ⟨rfl, g2⟩
  go_wp2_with fail
  go_ret
  exact ⟨rfl, gb_none (gb_alloc (gb_refl _ _) _) g2⟩
 | true =>
  go_enter Tryz.func119, Tryz.ntmps119
  go_wp2_with fail
  refine (Hf.out _ (HH.out.kept (gb_alloc (gb_refl _ _) _))).mono ?_
  rintro e w2 ⟨rfl, g2⟩
  have hb : w2.heap[w.heap.size]? = some (.cells #[.int .i64 x.k, .int .i64 x.n, .string x.s, .slice A x.l.length c] 107 (0, 0)) := (g2.block _ (by simp) (by simp)).trans (heap_alloc_new w _)
  obtain ⟨⟨b0, b1, b2, b3⟩, _, hbl⟩ := box4 hb
  have Hg2 := qj (gb_none (gb_alloc (gb_refl w none) _) g2)
  clear g2
  go_wp2_with fail
  refine (Hd.out Hm2.out _ (HH.out.kept Hg2.out)).mono ?_
  rintro e w3 ⟨⟨d, h1, h2, rfl⟩, g3⟩
  have h2' : d ≤ 6 := h2
  have z1 : decide (d ≤ 6) = true := decide_eq_true h2'
  clear h2
  go_wp2_with fail
  go_ret
  exact ⟨rfl, gb_none Hg2.out g3⟩
end Go.Proofs.YtpcjbjpofcdjeaaGreatDoor
namespace Go.Proofs.YtpcjbjpofcdjeaaGreatDoor
open Go.RowKit Wd Mm Vw
theorem bytes_one (l : List UInt8) : ∀ u ∈ l.map w8, u.oneCell' = true := by
 intro u hu
 simp only [List.mem_map] at hu
 obtain ⟨x, _, rfl⟩ := hu
 rfl
theorem cell_new {w : World} {t : TypeId} (u : Value) : ∀ j v, ([u] : List Value)[j]? = some v → (w.alloc (.cells #[u] t)).cell? ((⟨w.heap.size, 0, none⟩ : Addr).add j) = some v := fun j v hv => by
 have hj : j = 0 := by
  rcases j with _ | j
  ·rfl
  ·simp at hv
 subst hj
 have hadd : (⟨w.heap.size, 0, none⟩ : Addr).add 0 = ⟨w.heap.size, 0, none⟩ := by unfold Addr.add; split <;> simp_all
 rw [hadd, ← hv]
 exact cell_of_row _ _ 0 #[u] t (0, 0) (heap_alloc_new _ _)
theorem own_string {w : World} {base : Nat} {v : Value} {n : Nat} {l : List UInt8} (h : w.ownsRow base 5 1 v n (l.map w8)) (h0 : 0 < n) : (convert 54 9 v).run Tryz.prog w = .ok (.string ⟨l.toArray⟩) w := by
 have hl : l.length = n := by have := h.1; simpa using this
 rcases h.2 with ⟨_, hz⟩ | ⟨g, cap, cur, rfl, _⟩
 ·omega
 ·have r := run_convert_bytes_back (P := Tryz.prog) w 54 9 5 ⟨g, 0, none⟩ cap l Tryz.underlying54 Tryz.underlying5 Tryz.underlying9 (fun j hj => h.cells (g := g) rfl j _ (by simp [hj, w8]))
  rw [hl] at r
  exact r
theorem one_int {k : IntKind} (z : Int) : ∀ u ∈ ([.int k z] : List Value), u.oneCell' = true := by
 intro u hu
 rw [List.mem_singleton.1 hu]; rfl
theorem highs_succ (n : Int) : ∀ (m k : Nat), k < m → (highs n m).take (k + 1) = (highs n m).take k ++ [hiB n (m - 1 - k)]
 | 0, k, h => by omega
 | m + 1, 0, _ => by simp [highs]
 | m + 1, k + 1, h => by
  rw [highs, List.take_succ_cons, List.take_succ_cons, highs_succ n m k (by omega), List.cons_append, show m + 1 - 1 - (k + 1) = m - 1 - k by omega]
theorem high_byte (n : Int) (k q : Nat) (hk : k < 8) (hq : q = 8 * (7 - k)) : Value.int .u8 (n % 18446744073709551616 / 2 ^ q % 256) = w8 (hiB n (8 - 1 - k)) := by
 unfold w8
 rw [hiB_nat, show 8 * (8 - 1 - k) = q by omega]
 have : k = 0 ∨ k = 1 ∨ k = 2 ∨ k = 3 ∨ k = 4 ∨ k = 5 ∨ k = 6 ∨ k = 7 := by omega
 congr 1
 subst hq
 rcases this with rfl | rfl | rfl | rfl | rfl | rfl | rfl | rfl <;> simp only [Nat.reduceSub, Nat.reduceMul, Int.reducePow] <;> omega
theorem eight_any (n : Int) (w : World) :
  Calls Tryz.prog 76 #[.int .i64 n] w fun e w' => e = .returned (.string ⟨(highs n 8).toArray⟩) ∧ Gn w w' := by
 obtain ⟨N, hN⟩ : ∃ N : Int, N = n % 18446744073709551616 := ⟨_, rfl⟩
 have hN0 : 0 ≤ N := by omega
 have hN1 : N < 18446744073709551616 := by omega
 have hc1 : IntKind.u64.wrap n = N := by rw [IntKind.wrap_u64]; omega
 have hc2 : n % 18446744073709551616 = N := hN.symm
 have HN := qj hN
 clear hN
 obtain ⟨i0, hi0, hz0, hz1, hz2⟩ := info_parts byte_inf
 have Hi0 := qj hi0
 have Hz0 := qj hz0
 have Hz1 := qj hz1
 have Hz2 := qj hz2
 clear hi0 hz0 hz1 hz2
 go_enter Tryz.func76, Tryz.ntmps76
 go_wp2_with fail
 go_loopw [5, 4] (fun i v wr => ∃ k : Nat, k ≤ 8 ∧ i = .int .i64 k ∧ wr.ownsRow w.heap.size 5 1 v k (((highs n 8).take k).map w8) ∧ Gn w wr) (fun i _ _ => 8 - (intOf i).toNat)
 case atStart => exact ⟨0, Nat.zero_le _, rfl, World.ownsRow_nil _ _ _ _, gb_refl _ _⟩
 case round =>
  obtain ⟨k, hk, rfl, hown, hg⟩ := hrel
  by_cases hlt : k < 8
  ·have hdec : decide ((k : Int) < 8) = true := dcT
   obtain ⟨m, Hm⟩ : ∃ m : Nat, Hid (m = 8 * k) := ⟨_, rfl⟩
   have hm : 8 * (k : Int) = (m : Int) := by have := Hm.out; omega
   obtain ⟨q, Hq⟩ : ∃ q : Nat, Hid (q + m = 56) := ⟨56 - m, by show _ = _; have := Hm.out; omega⟩
   have hq : 56 - (m : Int) = (q : Int) := by have := Hq.out; omega
   have hq2 : (q : Int) ≤ 56 := by omega
   go_wp2_with (at_builtin; refine wpList_append_own _ rfl (.tmp 12) (.tmp 20) 54 rfl w.heap.size 5 i0 (.int .u8 0) 1 1 Tryz.underlying54 Hi0.out Hz0.out Hz1.out Hz2.out rfl (by decide) _ k _ rfl (hown.alloc _) ⟨wr.heap.size, 0, none⟩ 1 1 [.int .u8 (N / 2 ^ q % 256)] rfl rfl (cell_new _) (one_int _) (by simp only [maxLen]; omega) (by omega) (by have := hg.size; simp; omega) ?_; intro v' w' own' grow' _)
   go_roundw
   case rel =>
    refine ⟨k + 1, by omega, by go_num, ?_, gb_step (gb_alloc hg _) grow' (fun i e => .inr (hown.lt i e).1)⟩
    rw [highs_succ n 8 k hlt, List.map_append]
    have e : Value.int .u8 (N / 2 ^ q % 256) = w8 (hiB n (8 - 1 - k)) := by rw [HN.out]; exact high_byte n k q hlt (by have := Hq.out; have := Hm.out; omega)
    rw [e] at own'
    exact own'
   case measure => simp [intOf]; omega
  ·have hk8 : k = 8 := by omega
   subst hk8
   have hdec : decide (((8 : Nat) : Int) < 8) = false := by decide
   rw [List.take_of_length_le (by rw [highs_len]; exact Nat.le_refl _)] at hown
   have hconv := own_string hown (by decide)
   clear hlt hk hown
   go_wp2_with fail
   go_ret
   exact ⟨rfl, hg⟩
theorem four_part (n : Int) : (⟨(highs n 8).toArray⟩ : ByteArray).extract 4 8 = ⟨(highs n 4).toArray⟩ := by
 apply ByteArray.ext
 apply Array.ext'
 simp [highs]
theorem four_any (n : Int) (w : World) :
  Calls Tryz.prog 151 #[.int .i64 n] w fun e w' => e = .returned (.string ⟨(highs n 4).toArray⟩) ∧ Gn w w' := by
 have He := qj (fun w => eight_any n w)
 obtain ⟨s, hs⟩ : ∃ s : ByteArray, s = ⟨(highs n 8).toArray⟩ := ⟨_, rfl⟩
 have hz : s.size = 8 := by rw [hs]; simp [ByteArray.size, highs]
 have Hx : Hid (s.extract 4 8 = ⟨(highs n 4).toArray⟩) := by show _ = _; rw [hs]; exact four_part n
 rw [← hs] at He
 rw [← Hx.out]
 clear hs
 go_enter Tryz.func151, Tryz.ntmps151
 go_wp2_with fail
 refine (He.out _).mono ?_
 rintro e w2 ⟨rfl, g2⟩
 go_wp2_with fail
 go_ret
 exact ⟨rfl, g2⟩
end Go.Proofs.YtpcjbjpofcdjeaaGreatDoor
namespace Go.Proofs.YtpcjbjpofcdjeaaGreatDoor
open Go.RowKit Wd Mm Vw
def Ap (B : Nat) (w : World) (v v' : Value) (w' : World) (l : List UInt8) : Prop :=
 w'.ownsRow B 5 1 v' l.length (l.map w8) ∧ w.grownBy w' v.ownBlock ∧ (v'.ownBlock = v.ownBlock ∨ ∃ g, v'.ownBlock = some g ∧ w.heap.size ≤ g)
theorem Ap.slice {B : Nat} {w w' : World} {v v' : Value} {l : List UInt8} (h : Ap B w v v' w' l) : ∃ A m c, v' = .slice A m c := own_slice h.1
theorem Ap.trans {B : Nat} {w w1 w2 : World} {v v1 v2 : Value} {l1 l2 : List UInt8} (h : Ap B w v v1 w1 l1) (k : Ap B w1 v1 v2 w2 l2) : Ap B w v v2 w2 l2 := by
 refine ⟨k.1, gb_step h.2.1 k.2.1 (fun i e => ?_), ?_⟩
 ·rcases h.2.2 with h2 | ⟨g, h2, hg⟩
  ·exact .inl (h2.symm.trans e)
  ·exact .inr (by rw [h2] at e; cases e; exact hg)
 ·have hs := h.2.1.size
  rcases k.2.2 with k2 | ⟨g, k2, hg⟩
  ·rw [k2]; exact h.2.2
  ·exact .inr ⟨g, k2, by omega⟩
theorem Ap.start {B : Nat} {w : World} {v : Value} {l : List UInt8} (h : w.ownsRow B 5 1 v l.length (l.map w8)) : Ap B w v v w l := ⟨h, gb_refl _ _, .inl rfl⟩
theorem row_stays {B : Nat} {w w' : World} {v : Value} {l : List UInt8} (h : w.ownsRow B 5 1 v l.length (l.map w8)) (k : Gn w w') : w'.ownsRow B 5 1 v l.length (l.map w8) := by
 refine h.kept k ?_
 by_cases hv : v.ownBlock = none
 ·exact .inl hv
 ·exact .inr hv
theorem Ap.more {B : Nat} {w w1 w2 : World} {v v1 : Value} {l : List UInt8} (h : Ap B w v v1 w1 l) (k : Gn w1 w2) : Ap B w v v1 w2 l :=
 ⟨row_stays h.1 k, gb_none h.2.1 k, h.2.2⟩
theorem Ap.ahead {B : Nat} {w w1 w2 : World} {v v2 : Value} {l : List UInt8} (k : Gn w w1) (h : Ap B w1 v v2 w2 l) : Ap B w v v2 w2 l :=
 ⟨h.1, gb_step (gb_none' k) h.2.1 (fun _ e => .inl e), h.2.2.imp id (fun ⟨g, e, hg⟩ => ⟨g, e, Nat.le_trans k.size hg⟩)⟩
theorem Ap.block {B : Nat} {w0 w w' : World} {v v' : Value} {l0 l : List UInt8} (h0 : w0.ownsRow B 5 1 v l0.length (l0.map w8)) (hs : w0.heap.size < w.heap.size) (h : Ap B w v v' w' l) : w'.heap[w0.heap.size]? = w.heap[w0.heap.size]? :=
 h.2.1.block _ hs (fun e => by have := (h0.lt _ e.symm).2; omega)
theorem Ap.old {w0 w w' : World} {v v' : Value} {l0 l : List UInt8} (h0 : w.ownsRow w0.heap.size 5 1 v l0.length (l0.map w8)) (hg : Gn w0 w) (h : Ap w0.heap.size w v v' w' l) : Gn w0 w' :=
 gb_step hg h.2.1 (fun i e => .inr (h0.lt i e).1)
theorem ap_text {B : Nat} {w : World} {v : Value} {l : List UInt8} (h : w.ownsRow B 5 1 v l.length (l.map w8)) (s : ByteArray) (hlen : l.length + s.size ≤ 140737488355328) (hB : B ≤ w.heap.size) :
  ∃ v' w', (Builtin.append_ #[54, 9] 54 #[v, .string s]).run Tryz.prog w = .ok v' w' ∧ Ap B w v v' w' (l ++ s.data.toList) := by
 obtain ⟨i, hi, hz, hs1, hs2⟩ := byte_parts
 obtain ⟨v', w', hrun, hown', hgrow, hnn⟩ := Lib.run_append_own_string (P := Tryz.prog) w B 54 9 54 5 i Tryz.underlying54 Tryz.underlying9 hi hz hs1 hs2 v _ _ h s (by simp only [maxLen]; omega) hlen hB
 have hloc := text_loc h hlen hrun hnn
 refine ⟨v', w', hrun, ?_, hgrow, hloc.imp id fun h => ⟨_, h, Nat.le_refl _⟩⟩
 have e1 : (l ++ s.data.toList).map w8 = l.map w8 ++ Lib.strCells s := by rw [List.map_append, text_cells]
 have e2 : (l ++ s.data.toList).length = l.length + s.size := by simp
 rw [e1, e2]
 exact hown'
theorem ap_byte {B : Nat} {w w' : World} {v v' : Value} {l : List UInt8} {y : UInt8} {n : Int} (hn : n = (y.toNat : Int)) (own' : w'.ownsRow B 5 1 v' (l.length + 1) (l.map w8 ++ [.int .u8 n])) (grow' : w.grownBy w' v.ownBlock) (hloc : v'.ownBlock = v.ownBlock ∨ v'.ownBlock = some w.heap.size) : Ap B w v v' w' (l ++ [y]) := by
 refine ⟨?_, grow', hloc.imp id fun h => ⟨_, h, Nat.le_refl _⟩⟩
 have e1 : (l ++ [y]).map w8 = l.map w8 ++ [.int .u8 n] := by rw [List.map_append, hn]; rfl
 rw [e1, List.length_append]
 exact own'
def Putted (B : Nat) (w : World) (v : Value) (l : List UInt8) (e : Ending) (w' : World) : Prop := ∃ v', e = .returned v' ∧ Ap B w v v' w' l
def DPut (w0 : World) (x : Wr) : Prop := ∀ (L v : Value) (p : List UInt8) (w : World), HL w0 0 L x.l → Gn w0 w → w.ownsRow w0.heap.size 5 1 v p.length (p.map w8) → p.length + x.enc.length ≤ 1099511627776 →
 Calls Tryz.prog 120 #[v, .agg #[.int .i64 x.k, .int .i64 x.n, .string x.s, L]] w (Putted w0.heap.size w v (p ++ x.enc))
theorem box_stays {B : Nat} {w w1 : World} {v : Value} {l : List UInt8} {cs : Array Value} {o : Obj} (h : w.ownsRow B 5 1 v l.length (l.map w8)) (k : ((w.alloc (.cells cs 107)).alloc o).grownBy w1 v.ownBlock) : w1.heap[w.heap.size]? = some (.cells cs 107 (0, 0)) :=
 (k.block _ (by simp; omega) (fun e => by have := (h.lt _ e.symm).2; omega)).trans ((Below.heap_alloc _ _ _ (by simp)).trans (heap_alloc_new w _))
theorem first_byte {B : Nat} {w w1 : World} {v v1 : Value} {l : List UInt8} {y : UInt8} {n : Int} {o1 o2 : Obj} (hn : n = (y.toNat : Int)) (own' : w1.ownsRow B 5 1 v1 (l.length + 1) (l.map w8 ++ [.int .u8 n])) (grow' : ((w.alloc o1).alloc o2).grownBy w1 v.ownBlock) (hloc : v1.ownBlock = v.ownBlock ∨ v1.ownBlock = some ((w.alloc o1).alloc o2).heap.size) : Ap B w v v1 w1 (l ++ [y]) :=
 Ap.ahead (gb_alloc (gb_alloc (gb_refl w none) o1) o2) (ap_byte hn own' grow' hloc)
theorem Ap.off {B b : Nat} {w w' : World} {v v' : Value} {l : List UInt8} (h : Ap B w v v' w' l) (hv : v.ownBlock ≠ some b) (hb : b < w.heap.size) : v'.ownBlock ≠ some b := by
 rcases h.2.2 with h2 | ⟨g, h2, hg⟩
 ·rw [h2]; exact hv
 ·rw [h2]; intro e; cases e; omega
theorem Ap.keeps {B b : Nat} {w w' : World} {v v' : Value} {l : List UInt8} (h : Ap B w v v' w' l) (hv : v.ownBlock ≠ some b) (hb : b < w.heap.size) : w'.heap[b]? = w.heap[b]? :=
 h.2.1.block b hb (fun e => hv e.symm)
theorem first_off {B : Nat} {w : World} {v v1 : Value} {l : List UInt8} {o1 o2 : Obj} (h : w.ownsRow B 5 1 v l.length (l.map w8)) (hloc : v1.ownBlock = v.ownBlock ∨ v1.ownBlock = some ((w.alloc o1).alloc o2).heap.size) : v1.ownBlock ≠ some w.heap.size := by
 rcases hloc with h2 | h2
 ·rw [h2]; intro e; have := (h.lt _ e).2; omega
 ·rw [h2]; intro e; have := Option.some.inj e; simp at this; omega
theorem dput_num (w0 : World) (n : Int) (s : ByteArray) (l : List Wr) : DPut w0 (.mk 1 n s l) := by
 intro L v p w hL hg hown hlen
 replace hL : HL w0 0 L l := hL
 obtain ⟨A, c, rfl⟩ := hL.slice
 rw [enc_mk, if_pos rfl] at hlen ⊢
 have hlen2 : p.length ≤ 1099511627776 := by omega
 obtain ⟨vA, vn, vc, rfl⟩ := own_slice hown
 show Calls Tryz.prog 120 #[.slice vA vn vc, .agg #[.int .i64 1, .int .i64 n, .string s, .slice A l.length c]] w _
 obtain ⟨N, HN⟩ : ∃ N : Nat, Hid (N = l.length) := ⟨_, rfl⟩
 rw [← HN.out]
 have hB : w0.heap.size ≤ w.heap.size := hg.size
 have Hown := qj hown
 have Hown1 := qj ((hown.alloc (.cells #[.int .i64 1, .int .i64 n, .string s, .slice A N c] 107)).alloc (.cells #[.int .u8 1] 5))
 have He := qj (fun w => eight_any n w)
 obtain ⟨t, ht⟩ : ∃ t : ByteArray, t = ⟨(highs n 8).toArray⟩ := ⟨_, rfl⟩
 have Ht : Hid (t.data.toList = highs n 8) := by show _ = _; rw [ht]
 have htz : t.size = 8 := by rw [ht]; simp [ByteArray.size, highs]
 rw [← ht] at He
 have Hq : Hid (UInt8.ofNat ((1 : Int) % 256).toNat :: highs n 8 = [1] ++ t.data.toList) := by show _ = _; rw [Ht.out]; rfl
 rw [Hq.out]
 obtain ⟨i, hi, hz, hs1, hs2⟩ := byte_parts
 have Hi := qj hi
 have Hz := qj hz
 have Hs1 := qj hs1
 have Hs2 := qj hs2
 clear hL hg hown hlen hi hz hs1 hs2 ht
 go_enter Tryz.func120, Tryz.ntmps120
 go_wp2_with (at_builtin; refine wpList_append_own_at _ rfl (.tmp 6) (.tmp 10) 54 rfl w0.heap.size 5 i (.int .u8 0) 1 1 Tryz.underlying54 Hi.out Hz.out Hs1.out Hs2.out rfl (by decide) _ p.length _ rfl Hown1.out ⟨w.heap.size + 1, 0, none⟩ 1 1 [.int .u8 1] rfl rfl (by have := one_byte (w.alloc (.cells #[.int .i64 1, .int .i64 n, .string s, .slice A N c] 107)) 1; simpa using this) (one_small1 1) (by simp only [maxLen]; omega) (by omega) (by simp; omega) ?_; intro v' w' own' grow' _ hloc; obtain ⟨uA, un, uc, rfl⟩ := own_slice own'; have hbx := box_stays Hown.out grow'; obtain ⟨⟨b0, b1, b2, b3⟩, _, hbl⟩ := box4 hbx; have Hap := qj (first_byte (y := 1) rfl own' grow' hloc); clear own' grow' hloc hbx)
 refine (He.out _).mono ?_
 rintro e w2 ⟨rfl, g2⟩
 have Hap2 := qj (Hap.out.more g2)
 obtain ⟨v3, w3, hrun, hap3⟩ := ap_text Hap2.out.1 t (by rw [List.length_append, htz]; simp; omega) (Nat.le_trans hB Hap2.out.2.1.size)
 have Hap3 := qj (Hap2.out.trans hap3)
 obtain ⟨qA, qn, qc, rfl⟩ := hap3.slice
 have Hrun := qj hrun
 clear hrun hap3 g2
 go_wp2_with (at_builtin; refine Lib.wpList_append_run _ rfl (.tmp 16) (.tmp 19) 54 9 rfl _ _ rfl rfl _ _ Hrun.out ?_)
 go_ret
 refine ⟨_, rfl, ?_⟩
 have := Hap3.out
 rw [List.append_assoc] at this
 exact this
theorem dput_text (w0 : World) (n : Int) (s : ByteArray) (l : List Wr) : DPut w0 (.mk 2 n s l) := by
 intro L v p w hL hg hown hlen
 replace hL : HL w0 0 L l := hL
 obtain ⟨A, c, rfl⟩ := hL.slice
 rw [enc_mk, if_neg (by decide), if_pos rfl] at hlen ⊢
 have hlen2 : p.length + s.size ≤ 1099511627776 := by simp at hlen; omega
 obtain ⟨vA, vn, vc, rfl⟩ := own_slice hown
 show Calls Tryz.prog 120 #[.slice vA vn vc, .agg #[.int .i64 2, .int .i64 n, .string s, .slice A l.length c]] w _
 obtain ⟨N, HN⟩ : ∃ N : Nat, Hid (N = l.length) := ⟨_, rfl⟩
 rw [← HN.out]
 have hB : w0.heap.size ≤ w.heap.size := hg.size
 have Hown := qj hown
 have Hown1 := qj ((hown.alloc (.cells #[.int .i64 2, .int .i64 n, .string s, .slice A N c] 107)).alloc (.cells #[.int .u8 2] 5))
 have He := qj (fun w => four_any s.size w)
 obtain ⟨t, ht⟩ : ∃ t : ByteArray, t = ⟨(highs s.size 4).toArray⟩ := ⟨_, rfl⟩
 have Ht : Hid (t.data.toList = highs s.size 4) := by show _ = _; rw [ht]
 have htz : t.size = 4 := by rw [ht]; show (List.toArray _).size = 4; rw [List.size_toArray, highs_len]
 rw [← ht] at He
 have Hq : Hid (UInt8.ofNat ((2 : Int) % 256).toNat :: (highs s.size 4 ++ s.data.toList) = [2] ++ t.data.toList ++ s.data.toList) := by show _ = _; rw [Ht.out]; rfl
 rw [Hq.out]
 obtain ⟨i, hi, hz, hs1, hs2⟩ := byte_parts
 have Hi := qj hi
 have Hz := qj hz
 have Hs1 := qj hs1
 have Hs2 := qj hs2
 clear hL hg hown hlen hi hz hs1 hs2 ht
 go_enter Tryz.func120, Tryz.ntmps120
 go_wp2_with (at_builtin; refine wpList_append_own_at _ rfl (.tmp 6) (.tmp 10) 54 rfl w0.heap.size 5 i (.int .u8 0) 1 1 Tryz.underlying54 Hi.out Hz.out Hs1.out Hs2.out rfl (by decide) _ p.length _ rfl Hown1.out ⟨w.heap.size + 1, 0, none⟩ 1 1 [.int .u8 2] rfl rfl (by have := one_byte (w.alloc (.cells #[.int .i64 2, .int .i64 n, .string s, .slice A N c] 107)) 2; simpa using this) (one_small1 2) (by simp only [maxLen]; omega) (by omega) (by simp; omega) ?_; intro v' w' own' grow' _ hloc; obtain ⟨uA, un, uc, rfl⟩ := own_slice own'; have hbx := box_stays Hown.out grow'; obtain ⟨⟨b0, b1, b2, b3⟩, _, hbl⟩ := box4 hbx; have Hbx := qj hbx; have Hoff := qj (first_off Hown.out hloc); have Hap := qj (first_byte (y := 2) rfl own' grow' hloc); clear own' grow' hloc hbx)
 refine (He.out _).mono ?_
 rintro e w2 ⟨rfl, g2⟩
 have Hap2 := qj (Hap.out.more g2)
 obtain ⟨v3, w3, hrun, hap3⟩ := ap_text Hap2.out.1 t (by rw [List.length_append, htz]; simp; omega) (Nat.le_trans hB Hap2.out.2.1.size)
 have Hap3 := qj (Hap2.out.trans hap3)
 have hb2 : w.heap.size < w2.heap.size := Nat.lt_of_lt_of_le hbl g2.size
 obtain ⟨⟨d0, d1, d2, d3⟩, _, hdl⟩ := box4 ((hap3.keeps Hoff.out hb2).trans ((g2.block _ hbl (by simp)).trans Hbx.out))
 obtain ⟨v4, w4, hrun4, hap4⟩ := ap_text hap3.1 s (by rw [List.length_append, List.length_append]; have : t.data.toList.length = 4 := (by rw [Ht.out, highs_len]); rw [this]; simp; omega) (Nat.le_trans hB Hap3.out.2.1.size)
 have Hap4 := qj (Hap3.out.trans hap4)
 obtain ⟨qA, qn, qc, rfl⟩ := hap3.slice
 obtain ⟨rA, rn, rc, rfl⟩ := hap4.slice
 have Hrun := qj hrun
 have Hrun4 := qj hrun4
 clear hrun hap3 g2 hrun4 hap4
 go_wp2_with (at_builtin; first | refine Lib.wpList_append_run _ rfl (.tmp 23) (.tmp 27) 54 9 rfl _ _ rfl rfl _ _ Hrun.out ?_ | refine Lib.wpList_append_run _ rfl (.tmp 29) (.tmp 31) 54 9 rfl _ _ rfl rfl _ _ Hrun4.out ?_)
 go_ret
 refine ⟨_, rfl, ?_⟩
 have := Hap4.out
 rw [List.append_assoc, List.append_assoc] at this
 exact this
theorem dput_list (w0 : World) (n : Int) (s : ByteArray) (l : List Wr) (ih : ∀ x ∈ l, DPut w0 x) : DPut w0 (.mk 3 n s l) := by
 intro L v p w hL hg hown hlen
 replace hL : HL w0 0 L l := hL
 obtain ⟨A, c, rfl⟩ := hL.slice
 rw [enc_mk, if_neg (by decide), if_neg (by decide)] at hlen ⊢
 have hlen2 : p.length + (5 + (encs l).length) ≤ 1099511627776 := by simp [highs_len] at hlen; omega
 obtain ⟨vA, vn, vc, rfl⟩ := own_slice hown
 show Calls Tryz.prog 120 #[.slice vA vn vc, .agg #[.int .i64 3, .int .i64 n, .string s, .slice A l.length c]] w _
 obtain ⟨N, HN⟩ : ∃ N : Nat, Hid (N = l.length) := ⟨_, rfl⟩
 obtain ⟨E, HE⟩ : ∃ E : Nat, Hid (E = (encs l).length) := ⟨_, rfl⟩
 have hll := hL.len
 have Ha := qj hL
 have Hih := qj ih
 have Hg := qj hg
 rw [← HN.out] at Ha hll ⊢
 rw [← HE.out] at hlen2
 have hB : w0.heap.size ≤ w.heap.size := hg.size
 have Hown := qj hown
 have Hown1 := qj ((hown.alloc (.cells #[.int .i64 3, .int .i64 n, .string s, .slice A N c] 107)).alloc (.cells #[.int .u8 3] 5))
 have He := qj (fun w => four_any N w)
 obtain ⟨t, ht⟩ : ∃ t : ByteArray, t = ⟨(highs N 4).toArray⟩ := ⟨_, rfl⟩
 have Ht : Hid (t.data.toList = highs N 4) := by show _ = _; rw [ht]
 have htz : t.size = 4 := by rw [ht]; show (List.toArray _).size = 4; rw [List.size_toArray, highs_len]
 rw [← ht] at He
 have Hq : Hid (UInt8.ofNat ((3 : Int) % 256).toNat :: (highs N 4 ++ encs l) = [3] ++ t.data.toList ++ encs l) := by show _ = _; rw [Ht.out]; rfl
 rw [Hq.out]
 obtain ⟨i, hi, hz, hs1, hs2⟩ := byte_parts
 have Hi := qj hi
 have Hz := qj hz
 have Hs1 := qj hs1
 have Hs2 := qj hs2
 clear hL hg hown hlen hi hz hs1 hs2 ht ih
 go_enter Tryz.func120, Tryz.ntmps120
 go_wp2_with (at_builtin; refine wpList_append_own_at _ rfl (.tmp 6) (.tmp 10) 54 rfl w0.heap.size 5 i (.int .u8 0) 1 1 Tryz.underlying54 Hi.out Hz.out Hs1.out Hs2.out rfl (by decide) _ p.length _ rfl Hown1.out ⟨w.heap.size + 1, 0, none⟩ 1 1 [.int .u8 3] rfl rfl (by have := one_byte (w.alloc (.cells #[.int .i64 3, .int .i64 n, .string s, .slice A N c] 107)) 3; simpa using this) (one_small1 3) (by simp only [maxLen]; omega) (by omega) (by simp; omega) ?_; intro v' w' own' grow' _ hloc; obtain ⟨uA, un, uc, rfl⟩ := own_slice own'; have hbx := box_stays Hown.out grow'; obtain ⟨⟨b0, b1, b2, b3⟩, _, hbl⟩ := box4 hbx; have Hbx := qj hbx; have Hoff := qj (first_off Hown.out hloc); have Hap := qj (first_byte (y := 3) rfl own' grow' hloc); clear own' grow' hloc hbx)
 refine (He.out _).mono ?_
 rintro e w2 ⟨rfl, g2⟩
 have Hap2 := qj (Hap.out.more g2)
 obtain ⟨v3, w3, hrun, hap3⟩ := ap_text Hap2.out.1 t (by rw [List.length_append, htz]; simp; omega) (Nat.le_trans hB Hap2.out.2.1.size)
 have hb2 : w.heap.size < w2.heap.size := Nat.lt_of_lt_of_le hbl g2.size
 have Hbx3 := qj ((hap3.keeps Hoff.out hb2).trans ((g2.block _ hbl (by simp)).trans Hbx.out))
 have Hoff3 := qj (hap3.off Hoff.out hb2)
 have Hap3 : Hid (Ap w0.heap.size w (.slice vA vn vc) v3 w3 (p ++ ([3] ++ t.data.toList) ++ encs (l.take 0))) := by
  have := Hap2.out.trans hap3
  rw [List.take_zero, encs_nil, List.append_nil, ← List.append_assoc]
  exact this
 obtain ⟨qA, qn, qc, rfl⟩ := hap3.slice
 have Hrun := qj hrun
 clear hrun hap3 g2 b0 b1 b2 b3
 go_wp2_with (at_builtin; refine Lib.wpList_append_run _ rfl (.tmp 33) (.tmp 37) 54 9 rfl _ _ rfl rfl _ _ Hrun.out ?_)
 go_loopw [5, 0] (fun i u wr => ∃ j : Nat, j ≤ N ∧ i = .int .i64 j ∧ Hid (Ap w0.heap.size w (.slice vA vn vc) u wr (p ++ ([3] ++ t.data.toList) ++ encs (l.take j))) ∧ Hid (wr.heap[w.heap.size]? = some (.cells #[.int .i64 3, .int .i64 n, .string s, .slice A N c] 107 (0, 0))) ∧ Hid (u.ownBlock ≠ some w.heap.size)) (fun i _ _ => N - (intOf i).toNat)
 case atStart => exact ⟨0, Nat.zero_le _, rfl, Hap3, Hbx3, Hoff3⟩
 case round =>
  obtain ⟨j, hj, rfl, Hapj, Hbxj, Hoffj⟩ := hrel
  obtain ⟨⟨b0, b1, b2, b3⟩, _, hbl⟩ := box4 Hbxj.out
  obtain ⟨rA, rn, rc, rfl⟩ := Hapj.out.slice
  clear b0 b1 b2
  by_cases hlt : j < N
  ·have z1 : decide (j < N) = true := decide_eq_true hlt
   obtain ⟨x, hx⟩ : ∃ x, l[j]? = some x := ⟨_, List.getElem?_eq_getElem (by rw [← HN.out]; exact hlt)⟩
   obtain ⟨g, o, A2, c', rfl, _, hgs, c0, c1, c2, c3, hxl⟩ := Ha.out.item hx
   have Hgj := qj (Hapj.out.old Hown.out Hg.out)
   have hk := Hgj.out.block g hgs (by simp)
   have e0 := (cell_of_heap (a := ⟨g, o + j * 4, none⟩) hk).trans c0
   have e1 := (cell_of_heap (a := ⟨g, o + j * 4 + 1, none⟩) hk).trans c1
   have e2 := (cell_of_heap (a := ⟨g, o + j * 4 + 2, none⟩) hk).trans c2
   have e3 := (cell_of_heap (a := ⟨g, o + j * 4 + 3, none⟩) hk).trans c3
   have Hx := qj hx
   have Hxl := qj hxl
   have Hsz := qj (encs_part l j x hx)
   clear hx hxl c0 c1 c2 c3 hk
   go_wp2_with fail
   refine (Hih.out x (List.mem_of_getElem? Hx.out) _ _ _ wr Hxl.out Hgj.out Hapj.out.1 ?_).mono ?_
   ·have h1 := Hsz.out
    have h2 := HE.out
    have h3 : t.data.toList.length = 4 := by rw [Ht.out, highs_len]
    simp only [List.length_append, List.length_singleton, h3]
    omega
   rintro e w4 ⟨v4, rfl, hap4⟩
   have Hap4 : Hid (Ap w0.heap.size w (.slice vA vn vc) v4 w4 (p ++ ([3] ++ t.data.toList) ++ encs (l.take (j + 1)))) := by
    have := Hapj.out.trans hap4
    rw [encs_take l j x Hx.out, ← List.append_assoc]
    exact this
   have Hbx4 := qj ((hap4.keeps Hoffj.out hbl).trans Hbxj.out)
   have Hoff4 := qj (hap4.off Hoffj.out hbl)
   obtain ⟨yA, yn, yc, rfl⟩ := hap4.slice
   clear hap4
   go_wp2_with fail
   go_roundw
   case rel => exact ⟨j + 1, by omega, by go_num, Hap4, Hbx4, Hoff4⟩
   case measure => simp [intOf]; omega
  ·have z1 : decide (j < N) = false := decide_eq_false hlt
   have Hfin : Hid (Ap w0.heap.size w (.slice vA vn vc) (.slice rA rn rc) wr (p ++ ([3] ++ t.data.toList ++ encs l))) := by
    have := Hapj.out
    rw [List.take_of_length_le (by rw [← HN.out]; omega), List.append_assoc] at this
    exact this
   clear hlt
   go_wp2_with fail
   go_ret
   exact ⟨_, rfl, Hfin.out⟩
theorem dput_any : ∀ (x : Wr) (room : Int), x.fit room = true → ∀ (w0 : World), DPut w0 x
 | .mk k n s l, room, hf, w0 => by
  obtain ⟨hk, _, h3, _, _⟩ := fit_kinds hf
  rcases hk with rfl | ⟨rfl, rfl⟩ | ⟨rfl, rfl⟩
  ·exact dput_num w0 n s l
  ·exact dput_text w0 n s []
  ·exact dput_list w0 n ⟨#[]⟩ l (fun x hx => dput_any x (room - 1) (h3 rfl x hx) w0)
termination_by x => SizeOf.sizeOf x
decreasing_by
 have := List.sizeOf_lt_of_mem hx
 simp
 omega
end Go.Proofs.YtpcjbjpofcdjeaaGreatDoor
namespace Go.Proofs.YtpcjbjpofcdjeaaGreatDoor
open Go.RowKit Wd Mm Vw
theorem enc_some (x : Wr) : 0 < x.enc.length := by
 obtain ⟨k, n, s, l⟩ := x
 rw [enc_mk]; simp
theorem putwire_no (x : Wr) (L : Value) (w : World) (h : HL w 0 L x.l) (hm : x.may = false) :
  Calls Tryz.prog 77 #[.agg #[.int .i64 x.k, .int .i64 x.n, .string x.s, L]] w fun e w' => e = .returned (.string ⟨#[]⟩) ∧ Gn w w' := by
 have hmay := maywire_any x
 rw [hm] at hmay
 have Hmay := qj hmay
 have HH := qj h
 obtain ⟨A, c, rfl⟩ := h.slice
 clear h hmay hm
 go_enter Tryz.func77, Tryz.ntmps77
 go_wp2_with fail
 refine (Hmay.out _ _ (HH.out.kept (gb_alloc (gb_refl _ _) _))).mono ?_
 rintro e w2 ⟨rfl, g2⟩
 go_wp2_with fail
 go_ret
 exact ⟨rfl, gb_none (gb_alloc (gb_refl _ _) _) g2⟩
theorem putwire_yes (x : Wr) (L : Value) (w : World) (h : HL w 0 L x.l) (hm : x.may = true) (hlen : x.enc.length ≤ 1099511627776) :
  Calls Tryz.prog 77 #[.agg #[.int .i64 x.k, .int .i64 x.n, .string x.s, L]] w fun e w' => e = .returned (.string ⟨x.enc.toArray⟩) ∧ Gn w w' := by
 have hmay := maywire_any x
 have hput := dput_any x 6 hm
 have hpos := enc_some x
 rw [hm] at hmay
 have Hmay := qj hmay
 have Hput := qj hput
 have HH := qj h
 have Hlen := qj hlen
 have Hpos := qj hpos
 obtain ⟨A, c, rfl⟩ := h.slice
 clear h hmay hm hput hlen hpos
 go_enter Tryz.func77, Tryz.ntmps77
 go_wp2_with fail
 refine (Hmay.out _ _ (HH.out.kept (gb_alloc (gb_refl _ _) _))).mono ?_
 rintro e w2 ⟨rfl, g2⟩
 have g2w := gb_none (gb_alloc (gb_refl w none) _) g2
 have hbox : w2.heap[w.heap.size]? = some (.cells #[.int .i64 x.k, .int .i64 x.n, .string x.s, .slice A x.l.length c] 107 (0, 0)) := (g2.block _ (by simp) (by simp)).trans (heap_alloc_new _ _)
 obtain ⟨⟨b0, b1, b2, b3⟩, _, hbl⟩ := box4 hbox
 have Hg2w := qj g2w
 have Hnil : Hid (w2.ownsRow w2.heap.size 5 1 (.slice none 0 0) ([] : List UInt8).length (([] : List UInt8).map w8)) := World.ownsRow_nil w2 _ _ 1
 clear g2 g2w hbox
 go_wp2_with fail
 refine (Hput.out w2 _ (.slice none 0 0) [] w2 (HH.out.kept Hg2w.out) (gb_refl _ _) Hnil.out (by have := Hlen.out; simp; omega)).mono ?_
 rintro e w3 ⟨v3, rfl, hap⟩
 rw [List.nil_append] at hap
 have hconv := own_string hap.1 Hpos.out
 have Hold := qj (Ap.old (w0 := w2) Hnil.out (gb_refl _ _) hap)
 obtain ⟨uA, un, uc, rfl⟩ := hap.slice
 clear hap
 go_wp2_with fail
 go_ret
 exact ⟨rfl, gb_none Hg2w.out Hold.out⟩
theorem putwire_all (x : Wr) (L : Value) (w : World) (h : HL w 0 L x.l) (hlen : x.enc.length ≤ 1099511627776) :
  Calls Tryz.prog 77 #[.agg #[.int .i64 x.k, .int .i64 x.n, .string x.s, L]] w fun e w' => e = .returned (.string x.bytes) ∧ Gn w w' := by
 unfold Wr.bytes
 cases hm : x.may with
 | true => rw [if_pos rfl]; exact putwire_yes x L w h hm hlen
 | false => rw [if_neg (by decide)]; exact putwire_no x L w h hm
end Go.Proofs.YtpcjbjpofcdjeaaGreatDoor
