/- What bytes say: plain. -/
import Derived.Test.YtbammjhafgbfkaaDoorVEnc
namespace Go.Proofs.YtbammjhafgbfkaaDoor.Vw
open Go Go.RowKit Go.Proofs.YtbammjhafgbfkaaDoor.Mm Go.Proofs.YtbammjhafgbfkaaDoor.Wd

/-- So many wires, one behind the other. -/
def rds (f : List UInt8 → Option (Wr × List UInt8)) : Nat → List UInt8 → Option (List Wr × List UInt8)
  | 0, s => some ([], s)
  | n + 1, s => match f s with
    | none => none
    | some (x, r) => match rds f n r with
      | none => none
      | some (l, t) => some (x :: l, t)
/-- A list, behind its kind. -/
def rdL (f : List UInt8 → Option (Wr × List UInt8)) (t : List UInt8) : Option (Wr × List UInt8) :=
  if t.length < 4 then none else if 65536 < beN (t.take 4) then none else (rds f (beN (t.take 4)) (t.drop 4)).map fun p => (.mk 3 0 ⟨#[]⟩ p.1, p.2)
def rdT (t : List UInt8) : Option (Wr × List UInt8) :=
  if t.length < 4 then none else if 1048576 < beN (t.take 4) then none else if (t.drop 4).length < beN (t.take 4) then none
    else some (.mk 2 0 ⟨((t.drop 4).take (beN (t.take 4))).toArray⟩ [], (t.drop 4).drop (beN (t.take 4)))
def rdN (t : List UInt8) : Option (Wr × List UInt8) := if t.length < 8 then none else some (.mk 1 (valI (t.take 8)) ⟨#[]⟩ [], t.drop 8)
/-- A wire at the beginning of bytes; 'sub': one within a list. -/
def rdB (sub : Option (List UInt8 → Option (Wr × List UInt8))) : List UInt8 → Option (Wr × List UInt8)
  | [] => none
  | k :: t => if k = 1 then rdN t else if k = 2 then rdT t else if k = 3 then sub.bind fun f => rdL f t else none
def rd : Nat → List UInt8 → Option (Wr × List UInt8)
  | 0 => rdB none
  | r + 1 => rdB (some (rd r))
def subOf : Nat → Option (List UInt8 → Option (Wr × List UInt8))
  | 0 => none
  | r + 1 => some (rd r)
theorem rd_eq (r : Nat) : rd r = rdB (subOf r) := by cases r <;> rfl

theorem rds_len {f : List UInt8 → Option (Wr × List UInt8)} (hf : ∀ s x t, f s = some (x, t) → t.length + 5 ≤ s.length) : ∀ n s l t, rds f n s = some (l, t) → t.length + 5 * n ≤ s.length ∧ l.length = n := by
  intro n
  induction n with
  | zero => intro s l t h; simp only [rds, Option.some.injEq, Prod.mk.injEq] at h; obtain ⟨rfl, rfl⟩ := h; simp
  | succ n ih =>
    intro s l t h
    rw [rds] at h
    cases hs : f s with
    | none => rw [hs] at h; cases h
    | some p =>
      obtain ⟨x, r⟩ := p
      rw [hs] at h
      simp only at h
      cases hr : rds f n r with
      | none => rw [hr] at h; cases h
      | some q =>
        obtain ⟨l', t'⟩ := q
        rw [hr] at h
        simp only [Option.some.injEq, Prod.mk.injEq] at h
        obtain ⟨rfl, rfl⟩ := h
        have h1 := hf s x r hs
        have h2 := ih r l' t' hr
        simp only [List.length_cons]
        omega
theorem rdN_some {t r : List UInt8} {x : Wr} (h : rdN t = some (x, r)) : 8 ≤ t.length ∧ x = .mk 1 (valI (t.take 8)) ⟨#[]⟩ [] ∧ r = t.drop 8 := by
  unfold rdN at h
  by_cases hl : t.length < 8
  · rw [if_pos hl] at h; cases h
  · rw [if_neg hl] at h
    simp only [Option.some.injEq, Prod.mk.injEq] at h
    exact ⟨by omega, h.1.symm, h.2.symm⟩
theorem rdT_some {t r : List UInt8} {x : Wr} (h : rdT t = some (x, r)) : 4 ≤ t.length ∧ beN (t.take 4) ≤ 1048576 ∧ beN (t.take 4) ≤ (t.drop 4).length ∧ x = .mk 2 0 ⟨((t.drop 4).take (beN (t.take 4))).toArray⟩ [] ∧ r = (t.drop 4).drop (beN (t.take 4)) := by
  unfold rdT at h
  by_cases hl : t.length < 4
  · rw [if_pos hl] at h; cases h
  rw [if_neg hl] at h
  by_cases hm : 1048576 < beN (t.take 4)
  · rw [if_pos hm] at h; cases h
  rw [if_neg hm] at h
  by_cases ho : (t.drop 4).length < beN (t.take 4)
  · rw [if_pos ho] at h; cases h
  rw [if_neg ho] at h
  simp only [Option.some.injEq, Prod.mk.injEq] at h
  exact ⟨by omega, by omega, by omega, h.1.symm, h.2.symm⟩
theorem rdL_some {f : List UInt8 → Option (Wr × List UInt8)} {t r : List UInt8} {x : Wr} (h : rdL f t = some (x, r)) : 4 ≤ t.length ∧ beN (t.take 4) ≤ 65536 ∧ ∃ l, rds f (beN (t.take 4)) (t.drop 4) = some (l, r) ∧ x = .mk 3 0 ⟨#[]⟩ l := by
  unfold rdL at h
  by_cases hl : t.length < 4
  · rw [if_pos hl] at h; cases h
  rw [if_neg hl] at h
  by_cases hm : 65536 < beN (t.take 4)
  · rw [if_pos hm] at h; cases h
  rw [if_neg hm] at h
  obtain ⟨⟨l, r'⟩, h1, h2⟩ := Option.map_eq_some_iff.1 h
  simp only [Prod.mk.injEq] at h2
  obtain ⟨rfl, rfl⟩ := h2
  exact ⟨by omega, by omega, l, h1, rfl⟩
theorem rdB_len {sub : Option (List UInt8 → Option (Wr × List UInt8))} (hsub : ∀ f, sub = some f → ∀ s x t, f s = some (x, t) → t.length + 5 ≤ s.length) : ∀ s x t, rdB sub s = some (x, t) → t.length + 5 ≤ s.length := by
  intro s x t h
  cases s with
  | nil => cases h
  | cons k r =>
    rw [rdB] at h
    simp only [List.length_cons]
    by_cases h1 : k = 1
    · rw [if_pos h1] at h
      obtain ⟨a, _, rfl⟩ := rdN_some h
      rw [List.length_drop]; omega
    rw [if_neg h1] at h
    by_cases h2 : k = 2
    · rw [if_pos h2] at h
      obtain ⟨a, _, _, _, rfl⟩ := rdT_some h
      rw [List.length_drop, List.length_drop]; omega
    rw [if_neg h2] at h
    by_cases h3 : k = 3
    · rw [if_pos h3] at h
      obtain ⟨f, hs, h⟩ := Option.bind_eq_some_iff.1 h
      obtain ⟨a, _, l, hr, _⟩ := rdL_some h
      have := (rds_len (hsub f hs) _ _ _ _ hr).1
      rw [List.length_drop] at this
      omega
    · rw [if_neg h3] at h; cases h
theorem rd_len : ∀ r s x t, rd r s = some (x, t) → t.length + 5 ≤ s.length := by
  intro r
  induction r with
  | zero => exact rdB_len (fun f hf => by cases hf)
  | succ r ih => exact rdB_len (fun f hf => by cases hf; exact ih)
/-- Gone through from the front. -/
theorem rds_some {f : List UInt8 → Option (Wr × List UInt8)} {n : Nat} {s r : List UInt8} {x : Wr} (h : f s = some (x, r)) : rds f (n + 1) s = (rds f n r).map fun p => (x :: p.1, p.2) := by
  rw [rds, h]
  cases hr : rds f n r <;> simp [hr]
theorem rds_none {f : List UInt8 → Option (Wr × List UInt8)} {n : Nat} {s : List UInt8} (h : f s = none) : rds f (n + 1) s = none := by rw [rds, h]
theorem beN_four (l : List UInt8) (h : l.length ≤ 4) : beN l < 4294967296 := by
  have H : ∀ (l : List UInt8) (n : Nat), l.length = n → beN l < 256 ^ n := by
    intro l n
    induction n generalizing l with
    | zero => intro hl; rw [List.length_eq_zero_iff.1 hl]; decide
    | succ n ih =>
      intro hl
      obtain ⟨l', c, rfl⟩ : ∃ l' c, l = l' ++ [c] := by
        rcases List.eq_nil_or_concat l with rfl | ⟨l', c, rfl⟩
        · cases hl
        · exact ⟨l', c, by simp⟩
      rw [beN_snoc]
      have h1 := ih l' (by simpa using hl)
      have h2 := c.toNat_lt
      rw [Nat.pow_succ]
      omega
  have h1 := H l l.length rfl
  have h2 : 256 ^ l.length ≤ 256 ^ 4 := Nat.pow_le_pow_right (by decide) h
  have h3 : (256 : Nat) ^ 4 = 4294967296 := by decide
  omega
theorem valI_four (l : List UInt8) (h : l.length ≤ 4) : valI l = (beN l : Int) := by
  have := beN_four l h
  unfold valI wrap64
  omega
theorem valI_one (k : UInt8) : valI [k] = (k.toNat : Int) := by
  have := k.toNat_lt
  have h : beN [k] = k.toNat := by simp [beN]
  unfold valI wrap64
  rw [h]
  omega
end Go.Proofs.YtbammjhafgbfkaaDoor.Vw
