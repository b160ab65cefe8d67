/- Who is a member, up to an epoch: the list of them; records of later epochs say nothing; each record of a right chain changes its device alone. Pure. -/
import Derived.Test.YtaecfcodldbnhaaMbC
set_option linter.unusedVariables false
namespace Go.Proofs.Ytaecfcodldbnhaa.Ro
open Go Go.Proofs.Ytaecfcodldbnhaa.Vw Go.Proofs.Ytaecfcodldbnhaa.Dt Go.Proofs.Ytaecfcodldbnhaa.Mb

theorem in_range {l : List Rc} {e d : Int} (h : inB l e d = true) : 0 ≤ d ∧ d < 8 := by
  unfold inB at h
  simp only [Bool.and_eq_true, decide_eq_true_eq] at h
  exact h.2
theorem in_out {l : List Rc} {e d : Int} (h : ¬ (0 ≤ d ∧ d < 8)) : inB l e d = false := by
  cases hb : inB l e d with
  | false => rfl
  | true => exact absurd (in_range hb) h
theorem in_nil (e d : Int) : inB [] e d = false := by unfold inB inL; rfl
/-- The members with numbers below n. -/
def memsU (l : List Rc) (e : Int) : Nat → List Int
  | 0 => []
  | n + 1 => memsU l e n ++ if inB l e (n : Int) then [(n : Int)] else []
def memsB (l : List Rc) (e : Int) : List Int := memsU l e 8
theorem memsU_yes {l : List Rc} {e : Int} {n : Nat} (h : inB l e (n : Int) = true) : memsU l e (n + 1) = memsU l e n ++ [(n : Int)] := by rw [memsU, if_pos h]
theorem memsU_no {l : List Rc} {e : Int} {n : Nat} (h : inB l e (n : Int) = false) : memsU l e (n + 1) = memsU l e n := by rw [memsU, if_neg (by rw [h]; decide), List.append_nil]
theorem memsU_len (l : List Rc) (e : Int) : ∀ n, (memsU l e n).length ≤ n
  | 0 => Nat.le_refl _
  | n + 1 => by
    rw [memsU, List.length_append]
    have := memsU_len l e n
    split <;> simp <;> omega
theorem memsU_mem (l : List Rc) (e d : Int) : ∀ n, d ∈ memsU l e n ↔ inB l e d = true ∧ 0 ≤ d ∧ d < (n : Int)
  | 0 => by
    constructor
    · intro h; cases h
    · intro h; omega
  | n + 1 => by
    rw [memsU, List.mem_append, memsU_mem l e d n]
    by_cases hb : inB l e (n : Int) = true
    · rw [if_pos hb, List.mem_singleton]
      constructor
      · rintro (h | rfl)
        · exact ⟨h.1, h.2.1, by omega⟩
        · exact ⟨hb, by omega, by omega⟩
      · rintro ⟨h1, h2, h3⟩
        by_cases hd : d = (n : Int)
        · exact .inr hd
        · exact .inl ⟨h1, h2, by omega⟩
    · rw [if_neg hb]
      constructor
      · rintro (h | h)
        · exact ⟨h.1, h.2.1, by omega⟩
        · cases h
      · rintro ⟨h1, h2, h3⟩
        refine .inl ⟨h1, h2, ?_⟩
        have : d ≠ (n : Int) := fun x => hb (by rw [← x]; exact h1)
        omega
theorem mems_mem (l : List Rc) (e d : Int) : d ∈ memsB l e ↔ inB l e d = true := by
  unfold memsB
  rw [memsU_mem]
  constructor
  · exact fun h => h.1
  · exact fun h => ⟨h, (in_range h).1, (in_range h).2⟩
theorem mems_len (l : List Rc) (e : Int) : (memsB l e).length ≤ 8 := memsU_len l e 8
def RiseI (l : List Int) : Prop := ∀ i a b, l[i]? = some a → l[i + 1]? = some b → a < b
theorem rise_snocI {l : List Int} {x : Int} (h : RiseI l) (hx : ∀ y ∈ l, y < x) : RiseI (l ++ [x]) := by
  intro i a b ha hb
  have hi := (List.getElem?_eq_some_iff.1 hb).1
  rw [List.length_append, List.length_singleton] at hi
  rw [List.getElem?_append_left (by omega)] at ha
  by_cases hl : i + 1 < l.length
  · rw [List.getElem?_append_left hl] at hb
    exact h i a b ha hb
  · rw [List.getElem?_append_right (by omega), show i + 1 - l.length = 0 by omega] at hb
    obtain rfl := Option.some.inj hb
    exact hx a (List.mem_of_getElem? ha)
theorem memsU_rise (l : List Rc) (e : Int) : ∀ n, RiseI (memsU l e n)
  | 0 => fun i a b ha _ => by cases ha
  | n + 1 => by
    rw [memsU]
    split
    · exact rise_snocI (memsU_rise l e n) fun y hy => ((memsU_mem l e y n).1 hy).2.2
    · rw [List.append_nil]; exact memsU_rise l e n
theorem mems_rise (l : List Rc) (e : Int) : RiseI (memsB l e) := memsU_rise l e 8
theorem memsU_ext {l l' : List Rc} {e e' : Int} (h : ∀ d, inB l e d = inB l' e' d) : ∀ n, memsU l e n = memsU l' e' n
  | 0 => rfl
  | n + 1 => by rw [memsU, memsU, memsU_ext h n, h]
theorem mems_ext {l l' : List Rc} {e e' : Int} (h : ∀ d, inB l e d = inB l' e' d) : memsB l e = memsB l' e' := memsU_ext h 8
/-! ### Later epochs -/
theorem inL_keep : ∀ (l : List Rc) (e d : Int) (b : Bool), (∀ r ∈ l, e < r.seq) → l.foldl (goesIn e d) b = b
  | [], _, _, _, _ => rfl
  | r :: l, e, d, b, h => by
    have hr := h r List.mem_cons_self
    rw [List.foldl_cons, show goesIn e d b r = b by unfold goesIn; rw [if_neg (fun x => by omega)]]
    exact inL_keep l e d b fun x hx => h x (List.mem_cons_of_mem _ hx)
theorem inL_same : ∀ (l : List Rc) (e e' d : Int) (b : Bool), (∀ r ∈ l, (r.seq ≤ e ↔ r.seq ≤ e')) → l.foldl (goesIn e d) b = l.foldl (goesIn e' d) b
  | [], _, _, _, _, _ => rfl
  | r :: l, e, e', d, b, h => by
    have hr := h r List.mem_cons_self
    have hg : goesIn e d b r = goesIn e' d b r := by
      unfold goesIn
      by_cases hs : r.seq ≤ e
      · have hs' := hr.1 hs
        simp only [hs, hs', true_and]
      · have hs' : ¬ r.seq ≤ e' := fun x => hs (hr.2 x)
        simp only [hs, hs', false_and, if_false]
    rw [List.foldl_cons, List.foldl_cons, hg]
    exact inL_same l e e' d _ fun x hx => h x (List.mem_cons_of_mem _ hx)
theorem in_same {l : List Rc} {e e' : Int} (h : ∀ r ∈ l, (r.seq ≤ e ↔ r.seq ≤ e')) (d : Int) : inB l e d = inB l e' d := by
  unfold inB inL
  rw [inL_same l e e' d false h]
theorem in_drop {a b : List Rc} {e : Int} (h : ∀ r ∈ b, e < r.seq) (d : Int) : inB (a ++ b) e d = inB a e d := by
  unfold inB inL
  rw [List.foldl_append, inL_keep b e d _ h]
theorem good_seq_mem {l : List Rc} (h : GoodR l) {r : Rc} (hr : r ∈ l) : r.seq ≤ (l.length : Int) := by
  obtain ⟨i, hi⟩ := List.getElem?_of_mem hr
  have h1 := good_seq h hi
  have h2 := (List.getElem?_eq_some_iff.1 hi).1
  omega
theorem good_seq_drop {l : List Rc} (h : GoodR l) {k : Nat} {r : Rc} (hr : r ∈ l.drop k) : (k : Int) < r.seq := by
  obtain ⟨i, hi⟩ := List.getElem?_of_mem hr
  rw [List.getElem?_drop] at hi
  have h1 := good_seq h hi
  omega
/-- Behind the last record nobody comes or goes. -/
theorem in_far {l : List Rc} (h : GoodR l) {e : Int} (he : (l.length : Int) ≤ e) (d : Int) : inB l e d = inB l (l.length : Int) d :=
  in_same (fun r hr => by have := good_seq_mem h hr; constructor <;> intro <;> omega) d
/-- What is later says nothing. -/
theorem in_take {l : List Rc} (h : GoodR l) (k : Nat) (d : Int) : inB l (k : Int) d = inB (l.take k) (k : Int) d := by
  have h1 := in_drop (a := l.take k) (b := l.drop k) (e := (k : Int)) (fun r hr => good_seq_drop h hr) d
  rwa [List.take_append_drop] at h1
theorem in_take_far {l : List Rc} (h : GoodR l) {k : Nat} {e : Int} (he : (k : Int) ≤ e) (d : Int) : inB (l.take k) e d = inB l (k : Int) d := by
  rw [in_take h]
  refine in_same (fun r hr => ?_) d
  have h1 := good_seq_mem (good_take h k) hr
  rw [List.length_take] at h1
  constructor <;> intro <;> omega
theorem in_zero {l : List Rc} (h : GoodR l) (d : Int) : inB l 0 d = false := by
  have h1 := in_take h 0 d
  rw [List.take_zero] at h1
  exact h1.trans (in_nil _ _)
/-- Each record changes its device alone. -/
theorem in_next {l : List Rc} (h : GoodR l) {k : Nat} {r : Rc} (hr : l[k]? = some r) {d : Int} (h0 : 0 ≤ d) (h8 : d < 8) : inB l ((k + 1 : Nat) : Int) d = if r.dev = d then decide (r.kind = 1) else inB l (k : Int) d := by
  have hs := good_seq h hr
  have hm := (good_may h (List.mem_of_getElem? hr)).1.2.2.2.1
  have h1 := in_take h (k + 1) d
  have e2 : inB (l.take k) ((k + 1 : Nat) : Int) d = inB l (k : Int) d := in_take_far h (by omega) d
  rw [h1, List.take_add_one, hr]
  show inB (l.take k ++ [r]) ((k + 1 : Nat) : Int) d = _
  unfold inB
  rw [inL_snoc]
  unfold goesIn
  by_cases hd : r.dev = d
  · rw [if_pos ⟨by omega, hd, hm⟩, if_pos hd]
    simp [h0, h8]
  · rw [if_neg (fun x => hd x.2.1), if_neg hd]
    unfold inB at e2
    exact e2
end Go.Proofs.Ytaecfcodldbnhaa.Ro
