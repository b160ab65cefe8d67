/- What bytes say: plain. Bytes tell a wire again; and what is told has just these bytes: plain. Two wires that are one: plain. The document's SameWire. -/
import Derived.Test.YtaecfcodldbnhaaVA
import Derived.Test.YtaecfcodldbnhaaBase
namespace Go.Proofs.Ytaecfcodldbnhaa.Vw
open Go Go.RowKit Go.Proofs.Ytaecfcodldbnhaa.Mm Go.Proofs.Ytaecfcodldbnhaa.Wd

/-- So many wires, one behind the other. -/
def rds (f : List UInt8 → Option (Wr × List UInt8)) : Nat → List UInt8 → Option (List Wr × List UInt8)
  | 0, s => some ([], s)
  | n + 1, s => match f s with
    | none => none
    | some (x, r) => match rds f n r with
      | none => none
      | some (l, t) => some (x :: l, t)
/-- A list, behind its kind. -/
def rdL (f : List UInt8 → Option (Wr × List UInt8)) (t : List UInt8) : Option (Wr × List UInt8) :=
  if t.length < 4 then none else if 65536 < beN (t.take 4) then none else (rds f (beN (t.take 4)) (t.drop 4)).map fun p => (.mk 3 0 ⟨#[]⟩ p.1, p.2)
def rdT (t : List UInt8) : Option (Wr × List UInt8) :=
  if t.length < 4 then none else if 1048576 < beN (t.take 4) then none else if (t.drop 4).length < beN (t.take 4) then none
    else some (.mk 2 0 ⟨((t.drop 4).take (beN (t.take 4))).toArray⟩ [], (t.drop 4).drop (beN (t.take 4)))
def rdN (t : List UInt8) : Option (Wr × List UInt8) := if t.length < 8 then none else some (.mk 1 (valI (t.take 8)) ⟨#[]⟩ [], t.drop 8)
/-- A wire at the beginning of bytes; 'sub': one within a list. -/
def rdB (sub : Option (List UInt8 → Option (Wr × List UInt8))) : List UInt8 → Option (Wr × List UInt8)
  | [] => none
  | k :: t => if k = 1 then rdN t else if k = 2 then rdT t else if k = 3 then sub.bind fun f => rdL f t else none
def rd : Nat → List UInt8 → Option (Wr × List UInt8)
  | 0 => rdB none
  | r + 1 => rdB (some (rd r))
def subOf : Nat → Option (List UInt8 → Option (Wr × List UInt8))
  | 0 => none
  | r + 1 => some (rd r)
theorem rd_eq (r : Nat) : rd r = rdB (subOf r) := by cases r <;> rfl

theorem rds_len {f : List UInt8 → Option (Wr × List UInt8)} (hf : ∀ s x t, f s = some (x, t) → t.length + 5 ≤ s.length) : ∀ n s l t, rds f n s = some (l, t) → t.length + 5 * n ≤ s.length ∧ l.length = n := by
  intro n
  induction n with
  | zero => intro s l t h; simp only [rds, Option.some.injEq, Prod.mk.injEq] at h; obtain ⟨rfl, rfl⟩ := h; simp
  | succ n ih =>
    intro s l t h
    rw [rds] at h
    cases hs : f s with
    | none => rw [hs] at h; cases h
    | some p =>
      obtain ⟨x, r⟩ := p
      rw [hs] at h
      simp only at h
      cases hr : rds f n r with
      | none => rw [hr] at h; cases h
      | some q =>
        obtain ⟨l', t'⟩ := q
        rw [hr] at h
        simp only [Option.some.injEq, Prod.mk.injEq] at h
        obtain ⟨rfl, rfl⟩ := h
        have h1 := hf s x r hs
        have h2 := ih r l' t' hr
        simp only [List.length_cons]
        omega
theorem rdN_some {t r : List UInt8} {x : Wr} (h : rdN t = some (x, r)) : 8 ≤ t.length ∧ x = .mk 1 (valI (t.take 8)) ⟨#[]⟩ [] ∧ r = t.drop 8 := by
  unfold rdN at h
  by_cases hl : t.length < 8
  · rw [if_pos hl] at h; cases h
  · rw [if_neg hl] at h
    simp only [Option.some.injEq, Prod.mk.injEq] at h
    exact ⟨by omega, h.1.symm, h.2.symm⟩
theorem rdT_some {t r : List UInt8} {x : Wr} (h : rdT t = some (x, r)) : 4 ≤ t.length ∧ beN (t.take 4) ≤ 1048576 ∧ beN (t.take 4) ≤ (t.drop 4).length ∧ x = .mk 2 0 ⟨((t.drop 4).take (beN (t.take 4))).toArray⟩ [] ∧ r = (t.drop 4).drop (beN (t.take 4)) := by
  unfold rdT at h
  by_cases hl : t.length < 4
  · rw [if_pos hl] at h; cases h
  rw [if_neg hl] at h
  by_cases hm : 1048576 < beN (t.take 4)
  · rw [if_pos hm] at h; cases h
  rw [if_neg hm] at h
  by_cases ho : (t.drop 4).length < beN (t.take 4)
  · rw [if_pos ho] at h; cases h
  rw [if_neg ho] at h
  simp only [Option.some.injEq, Prod.mk.injEq] at h
  exact ⟨by omega, by omega, by omega, h.1.symm, h.2.symm⟩
theorem rdL_some {f : List UInt8 → Option (Wr × List UInt8)} {t r : List UInt8} {x : Wr} (h : rdL f t = some (x, r)) : 4 ≤ t.length ∧ beN (t.take 4) ≤ 65536 ∧ ∃ l, rds f (beN (t.take 4)) (t.drop 4) = some (l, r) ∧ x = .mk 3 0 ⟨#[]⟩ l := by
  unfold rdL at h
  by_cases hl : t.length < 4
  · rw [if_pos hl] at h; cases h
  rw [if_neg hl] at h
  by_cases hm : 65536 < beN (t.take 4)
  · rw [if_pos hm] at h; cases h
  rw [if_neg hm] at h
  obtain ⟨⟨l, r'⟩, h1, h2⟩ := Option.map_eq_some_iff.1 h
  simp only [Prod.mk.injEq] at h2
  obtain ⟨rfl, rfl⟩ := h2
  exact ⟨by omega, by omega, l, h1, rfl⟩
theorem rdB_len {sub : Option (List UInt8 → Option (Wr × List UInt8))} (hsub : ∀ f, sub = some f → ∀ s x t, f s = some (x, t) → t.length + 5 ≤ s.length) : ∀ s x t, rdB sub s = some (x, t) → t.length + 5 ≤ s.length := by
  intro s x t h
  cases s with
  | nil => cases h
  | cons k r =>
    rw [rdB] at h
    simp only [List.length_cons]
    by_cases h1 : k = 1
    · rw [if_pos h1] at h
      obtain ⟨a, _, rfl⟩ := rdN_some h
      rw [List.length_drop]; omega
    rw [if_neg h1] at h
    by_cases h2 : k = 2
    · rw [if_pos h2] at h
      obtain ⟨a, _, _, _, rfl⟩ := rdT_some h
      rw [List.length_drop, List.length_drop]; omega
    rw [if_neg h2] at h
    by_cases h3 : k = 3
    · rw [if_pos h3] at h
      obtain ⟨f, hs, h⟩ := Option.bind_eq_some_iff.1 h
      obtain ⟨a, _, l, hr, _⟩ := rdL_some h
      have := (rds_len (hsub f hs) _ _ _ _ hr).1
      rw [List.length_drop] at this
      omega
    · rw [if_neg h3] at h; cases h
theorem rd_len : ∀ r s x t, rd r s = some (x, t) → t.length + 5 ≤ s.length := by
  intro r
  induction r with
  | zero => exact rdB_len (fun f hf => by cases hf)
  | succ r ih => exact rdB_len (fun f hf => by cases hf; exact ih)
/-- Gone through from the front. -/
theorem rds_some {f : List UInt8 → Option (Wr × List UInt8)} {n : Nat} {s r : List UInt8} {x : Wr} (h : f s = some (x, r)) : rds f (n + 1) s = (rds f n r).map fun p => (x :: p.1, p.2) := by
  rw [rds, h]
  cases hr : rds f n r <;> simp [hr]
theorem rds_none {f : List UInt8 → Option (Wr × List UInt8)} {n : Nat} {s : List UInt8} (h : f s = none) : rds f (n + 1) s = none := by rw [rds, h]
theorem beN_four (l : List UInt8) (h : l.length ≤ 4) : beN l < 4294967296 := by
  have H : ∀ (l : List UInt8) (n : Nat), l.length = n → beN l < 256 ^ n := by
    intro l n
    induction n generalizing l with
    | zero => intro hl; rw [List.length_eq_zero_iff.1 hl]; decide
    | succ n ih =>
      intro hl
      obtain ⟨l', c, rfl⟩ : ∃ l' c, l = l' ++ [c] := by
        rcases List.eq_nil_or_concat l with rfl | ⟨l', c, rfl⟩
        · cases hl
        · exact ⟨l', c, by simp⟩
      rw [beN_snoc]
      have h1 := ih l' (by simpa using hl)
      have h2 := c.toNat_lt
      rw [Nat.pow_succ]
      omega
  have h1 := H l l.length rfl
  have h2 : 256 ^ l.length ≤ 256 ^ 4 := Nat.pow_le_pow_right (by decide) h
  have h3 : (256 : Nat) ^ 4 = 4294967296 := by decide
  omega
theorem valI_four (l : List UInt8) (h : l.length ≤ 4) : valI l = (beN l : Int) := by
  have := beN_four l h
  unfold valI wrap64
  omega
theorem valI_one (k : UInt8) : valI [k] = (k.toNat : Int) := by
  have := k.toNat_lt
  have h : beN [k] = k.toNat := by simp [beN]
  unfold valI wrap64
  rw [h]
  omega
end Go.Proofs.Ytaecfcodldbnhaa.Vw

namespace Go.Proofs.Ytaecfcodldbnhaa.Vw
open Go Go.RowKit Go.Proofs.Ytaecfcodldbnhaa.Mm Go.Proofs.Ytaecfcodldbnhaa.Wd

mutual
/-- All its numbers go into 64 bits. -/
def Wr.in64 : Wr → Bool
  | .mk _ n _ l => decide (-9223372036854775808 ≤ n) && decide (n ≤ 9223372036854775807) && allIn l
def allIn : List Wr → Bool
  | [] => true
  | x :: r => x.in64 && allIn r
end
theorem in64_mk (k n : Int) (s : ByteArray) (l : List Wr) : (Wr.mk k n s l).in64 = (decide (-9223372036854775808 ≤ n) && decide (n ≤ 9223372036854775807) && allIn l) := by rw [Wr.in64]
theorem allIn_cons (x : Wr) (r : List Wr) : allIn (x :: r) = (x.in64 && allIn r) := by rw [allIn]
theorem allIn_nil : allIn [] = true := by rw [allIn]
theorem beN_list (l : List UInt8) (a : UInt8) : beN (a :: l) = a.toNat * 256 ^ l.length + beN l := by
  have H : ∀ (l : List UInt8) (z : Nat), l.foldl (fun a c => a * 256 + c.toNat) z = z * 256 ^ l.length + beN l := by
    intro l
    induction l with
    | nil => intro z; simp [beN]
    | cons c r ih =>
      intro z
      unfold beN at *
      simp only [List.foldl_cons, List.length_cons]
      rw [ih, ih (0 * 256 + c.toNat), Nat.pow_succ, Nat.add_mul, Nat.zero_mul, Nat.zero_add, Nat.mul_assoc, Nat.mul_comm 256 (256 ^ r.length), Nat.add_assoc]
  show (a :: l).foldl _ 0 = _
  rw [List.foldl_cons, H]
  simp
theorem highs4 (n : Int) : highs n 4 = [hiB n 3, hiB n 2, hiB n 1, hiB n 0] := rfl
theorem highs8 (n : Int) : highs n 8 = [hiB n 7, hiB n 6, hiB n 5, hiB n 4, hiB n 3, hiB n 2, hiB n 1, hiB n 0] := rfl
theorem beN4 (a b c d : UInt8) : beN [a, b, c, d] = ((a.toNat * 256 + b.toNat) * 256 + c.toNat) * 256 + d.toNat := by simp [beN]
theorem beN8 (a b c d e f g h : UInt8) : beN [a, b, c, d, e, f, g, h] = ((((((a.toNat * 256 + b.toNat) * 256 + c.toNat) * 256 + d.toNat) * 256 + e.toNat) * 256 + f.toNat) * 256 + g.toNat) * 256 + h.toNat := by simp [beN]
theorem beN_highs4 (n : Nat) (h : n < 4294967296) : beN (highs n 4) = n := by
  rw [highs4, beN4]
  have h0 := hiB_nat n 0
  have h1 := hiB_nat n 1
  have h2 := hiB_nat n 2
  have h3 := hiB_nat n 3
  simp only [Nat.mul_zero, Nat.mul_one, Nat.reduceMul, Int.reducePow] at h0 h1 h2 h3
  omega
theorem valI_highs8 (n : Int) (h1 : -9223372036854775808 ≤ n) (h2 : n ≤ 9223372036854775807) : valI (highs n 8) = n := by
  unfold valI
  rw [highs8, beN8]
  have g0 := hiB_nat n 0
  have g1 := hiB_nat n 1
  have g2 := hiB_nat n 2
  have g3 := hiB_nat n 3
  have g4 := hiB_nat n 4
  have g5 := hiB_nat n 5
  have g6 := hiB_nat n 6
  have g7 := hiB_nat n 7
  simp only [Nat.mul_zero, Nat.mul_one, Nat.reduceMul, Int.reducePow] at g0 g1 g2 g3 g4 g5 g6 g7
  unfold wrap64
  omega
theorem byte_eq {a b : UInt8} (h : (a.toNat : Int) = b.toNat) : a = b := UInt8.toNat_inj.1 (by omega)
theorem highs_beN4 (a b c d : UInt8) : highs (beN [a, b, c, d]) 4 = [a, b, c, d] := by
  have ha := a.toNat_lt
  have hb := b.toNat_lt
  have hc := c.toNat_lt
  have hd := d.toNat_lt
  rw [highs4, beN4]
  have e0 : hiB ((((a.toNat * 256 + b.toNat) * 256 + c.toNat) * 256 + d.toNat : Nat) : Int) 0 = d := byte_eq (by rw [hiB_nat]; simp only [Nat.mul_zero, Int.reducePow]; omega)
  have e1 : hiB ((((a.toNat * 256 + b.toNat) * 256 + c.toNat) * 256 + d.toNat : Nat) : Int) 1 = c := byte_eq (by rw [hiB_nat]; simp only [Nat.mul_one, Int.reducePow]; omega)
  have e2 : hiB ((((a.toNat * 256 + b.toNat) * 256 + c.toNat) * 256 + d.toNat : Nat) : Int) 2 = b := byte_eq (by rw [hiB_nat]; simp only [Nat.reduceMul, Int.reducePow]; omega)
  have e3 : hiB ((((a.toNat * 256 + b.toNat) * 256 + c.toNat) * 256 + d.toNat : Nat) : Int) 3 = a := byte_eq (by rw [hiB_nat]; simp only [Nat.reduceMul, Int.reducePow]; omega)
  rw [e0, e1, e2, e3]
theorem four_list (l : List UInt8) (h : l.length = 4) : ∃ a b c d, l = [a, b, c, d] := by
  match l, h with
  | [a, b, c, d], _ => exact ⟨a, b, c, d, rfl⟩
theorem eight_list (l : List UInt8) (h : l.length = 8) : ∃ a b c d e f g i, l = [a, b, c, d, e, f, g, i] := by
  match l, h with
  | [a, b, c, d, e, f, g, i], _ => exact ⟨a, b, c, d, e, f, g, i, rfl⟩
theorem highs_four (l : List UInt8) (h : l.length = 4) : highs (beN l) 4 = l := by
  obtain ⟨a, b, c, d, rfl⟩ := four_list l h
  exact highs_beN4 a b c d
set_option maxHeartbeats 1000000 in
theorem highs_eight (l : List UInt8) (h : l.length = 8) : highs (valI l) 8 = l ∧ -9223372036854775808 ≤ valI l ∧ valI l ≤ 9223372036854775807 := by
  obtain ⟨a, b, c, d, e, f, g, i, rfl⟩ := eight_list l h
  have ha := a.toNat_lt
  have hb := b.toNat_lt
  have hc := c.toNat_lt
  have hd := d.toNat_lt
  have he := e.toNat_lt
  have hf := f.toNat_lt
  have hg := g.toNat_lt
  have hi := i.toNat_lt
  obtain ⟨V, hV⟩ : ∃ V : Int, V = valI [a, b, c, d, e, f, g, i] := ⟨_, rfl⟩
  rw [← hV]
  unfold valI at hV
  rw [beN8] at hV
  unfold wrap64 at hV
  refine ⟨?_, by omega, by omega⟩
  rw [highs8]
  have e0 : hiB V 0 = i := byte_eq (by rw [hiB_nat]; simp only [Nat.mul_zero, Int.reducePow]; omega)
  have e1 : hiB V 1 = g := byte_eq (by rw [hiB_nat]; simp only [Nat.mul_one, Int.reducePow]; omega)
  have e2 : hiB V 2 = f := byte_eq (by rw [hiB_nat]; simp only [Nat.reduceMul, Int.reducePow]; omega)
  have e3 : hiB V 3 = e := byte_eq (by rw [hiB_nat]; simp only [Nat.reduceMul, Int.reducePow]; omega)
  have e4 : hiB V 4 = d := byte_eq (by rw [hiB_nat]; simp only [Nat.reduceMul, Int.reducePow]; omega)
  have e5 : hiB V 5 = c := byte_eq (by rw [hiB_nat]; simp only [Nat.reduceMul, Int.reducePow]; omega)
  have e6 : hiB V 6 = b := byte_eq (by rw [hiB_nat]; simp only [Nat.reduceMul, Int.reducePow]; omega)
  have e7 : hiB V 7 = a := byte_eq (by rw [hiB_nat]; simp only [Nat.reduceMul, Int.reducePow]; omega)
  rw [e0, e1, e2, e3, e4, e5, e6, e7]
theorem zero_text {s : ByteArray} (h : s.size = 0) : s = ⟨#[]⟩ := by
  obtain ⟨⟨l⟩⟩ := s
  cases l with
  | nil => rfl
  | cons a r => simp [ByteArray.size] at h
theorem take_app {a t : List UInt8} {n : Nat} (h : a.length = n) : (a ++ t).take n = a ∧ (a ++ t).drop n = t := by
  subst h; simp

/-- What a list of wires that may be is told as. -/
theorem rds_encs (f : List UInt8 → Option (Wr × List UInt8)) : ∀ (l : List Wr) (t : List UInt8), (∀ x ∈ l, ∀ t, f (x.enc ++ t) = some (x, t)) → rds f l.length (encs l ++ t) = some (l, t) := by
  intro l
  induction l with
  | nil => intro t _; rw [encs_nil]; rfl
  | cons x r ih =>
    intro t h
    rw [encs_cons, List.append_assoc, List.length_cons, rds, h x List.mem_cons_self (encs r ++ t)]
    simp only
    rw [ih t (fun y hy => h y (List.mem_cons_of_mem _ hy))]
theorem rdB_enc {R : Nat} {sub : Option (List UInt8 → Option (Wr × List UInt8))} (k n : Int) (s : ByteArray) (l : List Wr) (hf : (Wr.mk k n s l).fit R = true) (hi : (Wr.mk k n s l).in64 = true)
    (hsub : 0 < R → ∃ f, sub = some f ∧ ∀ x ∈ l, ∀ t, f (x.enc ++ t) = some (x, t)) (t : List UInt8) : rdB sub ((Wr.mk k n s l).enc ++ t) = some (.mk k n s l, t) := by
  rw [fit_mk] at hf
  rw [in64_mk] at hi
  simp only [Bool.and_eq_true, decide_eq_true_eq] at hi
  rw [enc_mk]
  by_cases h1 : k = 1
  · subst h1
    simp only [if_true, Bool.and_eq_true, beq_iff_eq] at hf
    obtain rfl := zero_text hf.1
    obtain rfl := List.length_eq_zero_iff.1 hf.2
    rw [if_pos rfl, List.cons_append, rdB, if_pos (by decide), rdN, if_neg (by rw [List.length_append, highs_len]; omega)]
    rw [(take_app (highs_len n 8)).1, (take_app (highs_len n 8)).2, valI_highs8 n hi.1.1 hi.1.2]
  rw [if_neg h1] at hf ⊢
  by_cases h2 : k = 2
  · subst h2
    simp only [if_true, Bool.and_eq_true, beq_iff_eq, decide_eq_true_eq] at hf
    obtain ⟨⟨rfl, hs⟩, hl⟩ := hf
    obtain rfl := List.length_eq_zero_iff.1 hl
    rw [if_pos rfl, List.cons_append, rdB, if_neg (by decide), if_pos (by decide), rdT, List.append_assoc]
    have hb : beN (highs s.size 4) = s.size := beN_highs4 s.size (by omega)
    have hd : s.data.toList.length = s.size := by simp
    rw [(take_app (highs_len s.size 4)).1, (take_app (highs_len s.size 4)).2, hb, if_neg (by rw [List.length_append, highs_len]; omega), if_neg (by omega), if_neg (by rw [List.length_append]; omega)]
    rw [(take_app hd).1, (take_app hd).2]
  rw [if_neg h2] at hf ⊢
  by_cases h3 : k = 3
  · subst h3
    simp only [if_true, Bool.and_eq_true, beq_iff_eq, decide_eq_true_eq] at hf
    obtain ⟨⟨⟨rfl, hs⟩, hR⟩, hl, ha⟩ := hf
    obtain rfl := zero_text hs
    obtain ⟨f, rfl, hx⟩ := hsub (by omega)
    rw [List.cons_append, rdB, if_neg (by decide), if_neg (by decide), if_pos (by decide), Option.bind_some, rdL, List.append_assoc]
    have hb : beN (highs l.length 4) = l.length := beN_highs4 l.length (by omega)
    rw [(take_app (highs_len l.length 4)).1, (take_app (highs_len l.length 4)).2, hb, if_neg (by rw [List.length_append, highs_len]; omega), if_neg (by omega), rds_encs f l t hx]
    rfl
  · rw [if_neg h3] at hf; cases hf
theorem mem_fit {room : Int} {l : List Wr} (h : allFit room l = true) : ∀ x ∈ l, x.fit room = true := by
  induction l with
  | nil => intro x hx; cases hx
  | cons y r ih =>
    rw [allFit_cons, Bool.and_eq_true] at h
    intro x hx
    rcases List.mem_cons.1 hx with rfl | hx
    · exact h.1
    · exact ih h.2 x hx
theorem mem_in {l : List Wr} (h : allIn l = true) : ∀ x ∈ l, x.in64 = true := by
  induction l with
  | nil => intro x hx; cases hx
  | cons y r ih =>
    rw [allIn_cons, Bool.and_eq_true] at h
    intro x hx
    rcases List.mem_cons.1 hx with rfl | hx
    · exact h.1
    · exact ih h.2 x hx
/-- Get of Put is the same. -/
theorem rd_enc : ∀ (R : Nat) (x : Wr), x.fit R = true → x.in64 = true → ∀ t, rd R (x.enc ++ t) = some (x, t) := by
  intro R
  induction R with
  | zero =>
    intro x hf hi t
    obtain ⟨k, n, s, l⟩ := x
    exact rdB_enc k n s l hf hi (fun h => absurd h (by omega)) t
  | succ R ih =>
    intro x hf hi t
    obtain ⟨k, n, s, l⟩ := x
    refine rdB_enc k n s l hf hi (fun _ => ⟨rd R, rfl, fun y hy t => ?_⟩) t
    have hi' := hi
    rw [in64_mk] at hi'
    simp only [Bool.and_eq_true, decide_eq_true_eq] at hi'
    refine ih y ?_ (mem_in hi'.2 y hy) t
    have hf' := hf
    rw [fit_mk] at hf'
    by_cases h1 : k = 1
    · subst h1
      simp only [if_true, Bool.and_eq_true, beq_iff_eq] at hf'
      rw [List.length_eq_zero_iff.1 hf'.2] at hy; cases hy
    rw [if_neg h1] at hf'
    by_cases h2 : k = 2
    · subst h2
      simp only [if_true, Bool.and_eq_true, beq_iff_eq, decide_eq_true_eq] at hf'
      rw [List.length_eq_zero_iff.1 hf'.2] at hy; cases hy
    rw [if_neg h2] at hf'
    by_cases h3 : k = 3
    · subst h3
      simp only [if_true, Bool.and_eq_true, beq_iff_eq, decide_eq_true_eq] at hf'
      have := mem_fit hf'.2.2 y hy
      rwa [show ((R + 1 : Nat) : Int) - 1 = (R : Int) by omega] at this
    · rw [if_neg h3] at hf'; cases hf'

/-- What is told has just these bytes, and may be. -/
theorem rds_back (R : Nat) (f : List UInt8 → Option (Wr × List UInt8)) (hf : ∀ s x t, f s = some (x, t) → s = x.enc ++ t ∧ x.fit R = true ∧ x.in64 = true) : ∀ n s l t, rds f n s = some (l, t) → s = encs l ++ t ∧ allFit R l = true ∧ allIn l = true ∧ l.length = n := by
  intro n
  induction n with
  | zero => intro s l t h; simp only [rds, Option.some.injEq, Prod.mk.injEq] at h; obtain ⟨rfl, rfl⟩ := h; exact ⟨by rw [encs_nil]; rfl, allFit_nil _, allIn_nil, rfl⟩
  | succ n ih =>
    intro s l t h
    rw [rds] at h
    cases hs : f s with
    | none => rw [hs] at h; cases h
    | some p =>
      obtain ⟨x, r⟩ := p
      rw [hs] at h
      simp only at h
      cases hr : rds f n r with
      | none => rw [hr] at h; cases h
      | some q =>
        obtain ⟨l', t'⟩ := q
        rw [hr] at h
        simp only [Option.some.injEq, Prod.mk.injEq] at h
        obtain ⟨rfl, rfl⟩ := h
        obtain ⟨rfl, h2, h3⟩ := hf s x r hs
        obtain ⟨rfl, h5, h6, h7⟩ := ih r l' t' hr
        refine ⟨by rw [encs_cons, List.append_assoc], by rw [allFit_cons, h2, h5]; rfl, by rw [allIn_cons, h3, h6]; rfl, by rw [List.length_cons, h7]⟩
theorem rdB_back (R : Nat) {sub : Option (List UInt8 → Option (Wr × List UInt8))} (hsub : ∀ f, sub = some f → 0 < R ∧ ∀ s x t, f s = some (x, t) → s = x.enc ++ t ∧ x.fit ((R : Int) - 1) = true ∧ x.in64 = true) :
    ∀ s x t, rdB sub s = some (x, t) → s = x.enc ++ t ∧ x.fit R = true ∧ x.in64 = true := by
  intro s x t h
  cases s with
  | nil => cases h
  | cons k r =>
    rw [rdB] at h
    by_cases h1 : k = 1
    · subst h1
      rw [if_pos rfl] at h
      obtain ⟨h8, rfl, rfl⟩ := rdN_some h
      obtain ⟨g1, g2, g3⟩ := highs_eight (r.take 8) (by rw [List.length_take]; omega)
      refine ⟨?_, by rw [fit_mk, if_pos rfl]; rfl, ?_⟩
      · rw [enc_mk, if_pos rfl, g1, List.cons_append, List.take_append_drop]; rfl
      · rw [in64_mk, allIn_nil, decide_eq_true g2, decide_eq_true g3]; rfl
    rw [if_neg h1] at h
    by_cases h2 : k = 2
    · subst h2
      rw [if_pos rfl] at h
      obtain ⟨h4, hm, ho, rfl, rfl⟩ := rdT_some h
      have hsz : (⟨((r.drop 4).take (beN (r.take 4))).toArray⟩ : ByteArray).size = beN (r.take 4) := by
        show ((r.drop 4).take (beN (r.take 4))).toArray.size = _
        rw [List.size_toArray, List.length_take]; omega
      refine ⟨?_, ?_, by rw [in64_mk, allIn_nil]; rfl⟩
      · rw [enc_mk, if_neg (by decide), if_pos rfl, hsz, highs_four _ (by rw [List.length_take]; omega), List.cons_append, List.append_assoc]
        simp only [List.take_append_drop]
        rfl
      · rw [fit_mk, if_neg (by decide), if_pos rfl, hsz, decide_eq_true hm]; rfl
    rw [if_neg h2] at h
    by_cases h3 : k = 3
    · subst h3
      rw [if_pos rfl] at h
      obtain ⟨f, hs, hq⟩ := Option.bind_eq_some_iff.1 h
      obtain ⟨h4, hm, l, hr, rfl⟩ := rdL_some hq
      obtain ⟨hR, hff⟩ := hsub f hs
      have hR1 : ((R - 1 : Nat) : Int) = (R : Int) - 1 := by omega
      obtain ⟨g1, g2, g3, g4⟩ := rds_back (R - 1) f (by rw [hR1]; exact hff) _ _ _ _ hr
      rw [hR1] at g2
      refine ⟨?_, ?_, ?_⟩
      · rw [enc_mk, if_neg (by decide), if_neg (by decide), g4, highs_four _ (by rw [List.length_take]; omega), List.cons_append, List.append_assoc, ← g1, List.take_append_drop]; rfl
      · rw [fit_mk, if_neg (by decide), if_neg (by decide), if_pos rfl, g2, g4, decide_eq_true hm, decide_eq_true (show (0 : Int) < R by omega)]; rfl
      · rw [in64_mk, g3]; rfl
    · rw [if_neg h3] at h; cases h
theorem rd_back : ∀ (R : Nat) s x t, rd R s = some (x, t) → s = x.enc ++ t ∧ x.fit R = true ∧ x.in64 = true := by
  intro R
  induction R with
  | zero => exact rdB_back 0 (fun f hf => by cases hf)
  | succ R ih =>
    refine rdB_back (R + 1) (fun f hf => ?_)
    cases hf
    refine ⟨by omega, ?_⟩
    rw [show ((R + 1 : Nat) : Int) - 1 = (R : Int) by omega]
    exact ih
end Go.Proofs.Ytaecfcodldbnhaa.Vw

namespace Go.Proofs.Ytaecfcodldbnhaa.Vw
open Go Go.RowKit Go.Proofs.Ytaecfcodldbnhaa.Mm

/-! ### Two that are one -/
mutual
def Wr.same : Wr → Wr → Bool
  | .mk k n s l, .mk k' n' s' l' => k == k' && n == n' && s.toList == s'.toList && l.length == l'.length && sameAll l l'
def sameAll : List Wr → List Wr → Bool
  | [], _ => true
  | _ :: _, [] => true
  | x :: r, y :: q => x.same y && sameAll r q
end
theorem same_mk (k n : Int) (s : ByteArray) (l : List Wr) (k' n' : Int) (s' : ByteArray) (l' : List Wr) : (Wr.mk k n s l).same (.mk k' n' s' l') = (k == k' && n == n' && s.toList == s'.toList && l.length == l'.length && sameAll l l') := by rw [Wr.same]
theorem sameAll_nil (q : List Wr) : sameAll [] q = true := by rw [sameAll]
theorem sameAll_cons (x y : Wr) (r q : List Wr) : sameAll (x :: r) (y :: q) = (x.same y && sameAll r q) := by rw [sameAll]
theorem sameAll_drop (l q : List Wr) (i : Nat) (x y : Wr) (h : l[i]? = some x) (h' : q[i]? = some y) : sameAll (l.drop i) (q.drop i) = (x.same y && sameAll (l.drop (i + 1)) (q.drop (i + 1))) := by
  obtain ⟨hi, rfl⟩ := List.getElem?_eq_some_iff.1 h
  obtain ⟨hj, rfl⟩ := List.getElem?_eq_some_iff.1 h'
  rw [List.drop_eq_getElem_cons hi, List.drop_eq_getElem_cons hj, sameAll_cons]
theorem text_ext {a b : ByteArray} (h : a.toList = b.toList) : a = b := by
  rw [ByteArray.toList_eq, ByteArray.toList_eq] at h
  cases a; cases b
  simp only at h
  congr 1
  exact Array.ext' h
mutual
theorem same_self : ∀ x : Wr, x.same x = true
  | .mk k n s l => by
    rw [same_mk, all_self l]
    simp
theorem all_self : ∀ l : List Wr, sameAll l l = true
  | [] => sameAll_nil _
  | x :: r => by rw [sameAll_cons, same_self x, all_self r]; rfl
end
mutual
theorem same_eq : ∀ x y : Wr, x.same y = true → x = y
  | .mk k n s l, .mk k' n' s' l', h => by
    rw [same_mk] at h
    simp only [Bool.and_eq_true, beq_iff_eq] at h
    obtain ⟨⟨⟨⟨rfl, rfl⟩, hs⟩, hl⟩, ha⟩ := h
    rw [text_ext hs, all_eq l l' hl ha]
theorem all_eq : ∀ l q : List Wr, l.length = q.length → sameAll l q = true → l = q
  | [], [], _, _ => rfl
  | [], _ :: _, h, _ => by simp at h
  | _ :: _, [], h, _ => by simp at h
  | x :: r, y :: q, h, ha => by
    rw [sameAll_cons, Bool.and_eq_true] at ha
    rw [same_eq x y ha.1, all_eq r q (by simpa using h) ha.2]
end
end Go.Proofs.Ytaecfcodldbnhaa.Vw

namespace Go.Proofs.Ytaecfcodldbnhaa
open Go.RowKit Mm Vw

end Go.Proofs.Ytaecfcodldbnhaa
