/- Bytes as a state: which state a wire says, and which one bytes do. -/
import Derived.Test.YthijiefopcnclaaGreatDoorSnP
set_option linter.unusedVariables false
namespace Go.Proofs.YthijiefopcnclaaGreatDoor.Dt
open Go Go.Proofs.YthijiefopcnclaaGreatDoor.Vw

/-- What a wire has, if it is a list of just these kinds. -/
def itemsW (x : Wr) (ks : List Int) : Option (List Wr) := if x.k = 3 ∧ x.l.map Wr.k = ks then some x.l else none
/-- The run that a wire says. -/
def runOfW (x : Wr) : Option Rn := match itemsW x [1, 1, 1] with
  | some [a, b, c] => some ⟨a.n, b.n, c.n⟩
  | _ => none
/-- The fact that a wire says. -/
def factOfW (x : Wr) : Option Fc := match itemsW x [1, 1, 2, 1, 2, 1] with
  | some [a, b, c, d, e, f] => some ⟨a.n, b.n, c.s, d.n, e.s, f.n⟩
  | _ => none
/-- What each of them says, if each says something. -/
def allOf {α : Type} (f : Wr → Option α) : List Wr → Option (List α)
  | [] => some []
  | x :: l => (f x).bind fun a => (allOf f l).bind fun r => some (a :: r)
/-- The state that a wire says, whether it may be or not. -/
def stOfW (x : Wr) : Option St := match itemsW x [3, 3] with
  | some [a, b] => (allOf runOfW a.l).bind fun r => (allOf factOfW b.l).bind fun f => some ⟨r, f⟩
  | _ => none

theorem itemsW_yes {x : Wr} {ks : List Int} {l : List Wr} (h : itemsW x ks = some l) : x.k = 3 ∧ x.l.map Wr.k = ks ∧ l = x.l := by
  unfold itemsW at h
  split at h
  · rename_i hc; injection h with h; exact ⟨hc.1, hc.2, h.symm⟩
  · cases h
theorem itemsW_no {x : Wr} {ks : List Int} (h : ¬ (x.k = 3 ∧ x.l.map Wr.k = ks)) : itemsW x ks = none := if_neg h
theorem itemsW_is {x : Wr} {ks : List Int} (h : x.k = 3) (hk : x.l.map Wr.k = ks) : itemsW x ks = some x.l := if_pos ⟨h, hk⟩
theorem three_of {l : List Wr} {a b c : Int} (h : l.map Wr.k = [a, b, c]) : ∃ x y z, l = [x, y, z] ∧ x.k = a ∧ y.k = b ∧ z.k = c := by
  match l, h with
  | [x, y, z], h =>
    simp only [List.map_cons, List.map_nil, List.cons.injEq, and_true] at h
    exact ⟨x, y, z, rfl, h.1, h.2.1, h.2.2⟩
theorem two_of {l : List Wr} {a b : Int} (h : l.map Wr.k = [a, b]) : ∃ x y, l = [x, y] ∧ x.k = a ∧ y.k = b := by
  match l, h with
  | [x, y], h =>
    simp only [List.map_cons, List.map_nil, List.cons.injEq, and_true] at h
    exact ⟨x, y, rfl, h.1, h.2⟩
theorem six_of {l : List Wr} {a b c d e f : Int} (h : l.map Wr.k = [a, b, c, d, e, f]) : ∃ x y z u v w, l = [x, y, z, u, v, w] ∧ x.k = a ∧ y.k = b ∧ z.k = c ∧ u.k = d ∧ v.k = e ∧ w.k = f := by
  match l, h with
  | [x, y, z, u, v, w], h =>
    simp only [List.map_cons, List.map_nil, List.cons.injEq, and_true] at h
    exact ⟨x, y, z, u, v, w, rfl, h.1, h.2.1, h.2.2.1, h.2.2.2.1, h.2.2.2.2.1, h.2.2.2.2.2⟩
theorem runOfW_of {x : Wr} (h : x.k = 3 ∧ x.l.map Wr.k = [1, 1, 1]) : ∃ a b c, x.l = [a, b, c] ∧ runOfW x = some ⟨a.n, b.n, c.n⟩ := by
  obtain ⟨a, b, c, e, _⟩ := three_of h.2
  exact ⟨a, b, c, e, by unfold runOfW; rw [itemsW_is h.1 h.2, e]⟩
theorem runOfW_no {x : Wr} (h : ¬ (x.k = 3 ∧ x.l.map Wr.k = [1, 1, 1])) : runOfW x = none := by unfold runOfW; rw [itemsW_no h]
theorem factOfW_of {x : Wr} (h : x.k = 3 ∧ x.l.map Wr.k = [1, 1, 2, 1, 2, 1]) : ∃ a b c d e f, x.l = [a, b, c, d, e, f] ∧ factOfW x = some ⟨a.n, b.n, c.s, d.n, e.s, f.n⟩ := by
  obtain ⟨a, b, c, d, e, f, q, _⟩ := six_of h.2
  exact ⟨a, b, c, d, e, f, q, by unfold factOfW; rw [itemsW_is h.1 h.2, q]⟩
theorem factOfW_no {x : Wr} (h : ¬ (x.k = 3 ∧ x.l.map Wr.k = [1, 1, 2, 1, 2, 1])) : factOfW x = none := by unfold factOfW; rw [itemsW_no h]
theorem stOfW_of {x : Wr} (h : x.k = 3 ∧ x.l.map Wr.k = [3, 3]) : ∃ a b, x.l = [a, b] ∧ a.k = 3 ∧ b.k = 3 ∧ stOfW x = (allOf runOfW a.l).bind fun r => (allOf factOfW b.l).bind fun f => some ⟨r, f⟩ := by
  obtain ⟨a, b, q, ha, hb⟩ := two_of h.2
  exact ⟨a, b, q, ha, hb, by unfold stOfW; rw [itemsW_is h.1 h.2, q]⟩
theorem stOfW_no {x : Wr} (h : ¬ (x.k = 3 ∧ x.l.map Wr.k = [3, 3])) : stOfW x = none := by unfold stOfW; rw [itemsW_no h]

/-! ### One behind the other -/
theorem allOf_len {α : Type} {f : Wr → Option α} : ∀ {l : List Wr} {r : List α}, allOf f l = some r → r.length = l.length
  | [], r, h => by injection h with h; rw [← h]; rfl
  | x :: l, r, h => by
    rw [allOf] at h
    obtain ⟨a, _, h⟩ := Option.bind_eq_some_iff.1 h
    obtain ⟨q, hq, h⟩ := Option.bind_eq_some_iff.1 h
    injection h with h
    rw [← h, List.length_cons, List.length_cons, allOf_len hq]
theorem allOf_snoc {α : Type} {f : Wr → Option α} : ∀ {l : List Wr} {r : List α} {x : Wr} {a : α}, allOf f l = some r → f x = some a → allOf f (l ++ [x]) = some (r ++ [a])
  | [], r, x, a, h, hx => by injection h with h; rw [← h]; simp [allOf, hx]
  | y :: l, r, x, a, h, hx => by
    rw [allOf] at h
    obtain ⟨b, hb, h⟩ := Option.bind_eq_some_iff.1 h
    obtain ⟨q, hq, h⟩ := Option.bind_eq_some_iff.1 h
    injection h with h
    rw [← h, List.cons_append, allOf, hb, allOf_snoc hq hx]; rfl
theorem allOf_bad {α : Type} {f : Wr → Option α} : ∀ {l : List Wr} {x : Wr}, x ∈ l → f x = none → allOf f l = none
  | y :: l, x, h, hx => by
    rw [allOf]
    rcases List.mem_cons.1 h with rfl | h
    · rw [hx]; rfl
    · rw [allOf_bad h hx]; cases f y <;> rfl
theorem allOf_is {α : Type} {f : Wr → Option α} {g : α → Wr} {P : Wr → Prop} (hf : ∀ x a, P x → f x = some a → x = g a) : ∀ {l : List Wr} {r : List α}, (∀ x ∈ l, P x) → allOf f l = some r → l = r.map g
  | [], r, _, h => by injection h with h; rw [← h]; rfl
  | x :: l, r, hP, h => by
    rw [allOf] at h
    obtain ⟨a, ha, h⟩ := Option.bind_eq_some_iff.1 h
    obtain ⟨q, hq, h⟩ := Option.bind_eq_some_iff.1 h
    injection h with h
    rw [← h, List.map_cons, ← hf x a (hP x (by simp)) ha, ← allOf_is hf (fun y hy => hP y (by simp [hy])) hq]
theorem allOf_map {α : Type} {f : Wr → Option α} {g : α → Wr} (hf : ∀ a, f (g a) = some a) : ∀ r : List α, allOf f (r.map g) = some r
  | [] => rfl
  | a :: r => by rw [List.map_cons, allOf, hf a, allOf_map hf r]; rfl

/-! ### What may be is what it says -/
theorem fit_num {x : Wr} {R : Int} (h : x.fit R = true) (hk : x.k = 1) : x = nW x.n := by
  obtain ⟨k, n, s, l⟩ := x
  obtain rfl : k = 1 := hk
  rw [fit_mk, if_pos rfl] at h
  simp only [Bool.and_eq_true, beq_iff_eq] at h
  rw [zero_text h.1, List.length_eq_zero_iff.1 h.2]; rfl
theorem fit_txt {x : Wr} {R : Int} (h : x.fit R = true) (hk : x.k = 2) : x = tW x.s := by
  obtain ⟨k, n, s, l⟩ := x
  obtain rfl : k = 2 := hk
  rw [fit_mk, if_neg (by decide), if_pos rfl] at h
  simp only [Bool.and_eq_true, beq_iff_eq, decide_eq_true_eq] at h
  rw [h.1.1, List.length_eq_zero_iff.1 h.2]; rfl
theorem fit_lst {x : Wr} {R : Int} (h : x.fit R = true) (hk : x.k = 3) : x = lW x.l ∧ x.l.length ≤ 65536 ∧ ∀ y ∈ x.l, y.fit (R - 1) = true := by
  obtain ⟨k, n, s, l⟩ := x
  obtain rfl : k = 3 := hk
  rw [fit_mk, if_neg (by decide), if_neg (by decide), if_pos rfl] at h
  simp only [Bool.and_eq_true, beq_iff_eq, decide_eq_true_eq] at h
  refine ⟨?_, h.2.1, mem_fit h.2.2⟩
  rw [zero_text h.1.1.2, h.1.1.1]; rfl
theorem runOfW_is {R : Int} (x : Wr) (r : Rn) (h : x.fit R = true) (he : runOfW x = some r) : x = runW r := by
  by_cases hc : x.k = 3 ∧ x.l.map Wr.k = [1, 1, 1]
  · obtain ⟨e, _, hy⟩ := fit_lst h hc.1
    obtain ⟨a, b, c, el, ha, hb, hcc⟩ := three_of hc.2
    unfold runOfW at he
    rw [itemsW_is hc.1 hc.2, el] at he
    injection he with he
    rw [e, el, ← he]
    rw [el] at hy
    unfold runW
    rw [← fit_num (hy a (by simp)) ha, ← fit_num (hy b (by simp)) hb, ← fit_num (hy c (by simp)) hcc]
  · rw [runOfW_no hc] at he; cases he
theorem factOfW_is {R : Int} (x : Wr) (r : Fc) (h : x.fit R = true) (he : factOfW x = some r) : x = factW r := by
  by_cases hc : x.k = 3 ∧ x.l.map Wr.k = [1, 1, 2, 1, 2, 1]
  · obtain ⟨e, _, hy⟩ := fit_lst h hc.1
    obtain ⟨a, b, c, d, u, f, el, ha, hb, hcc, hd, hu, hf⟩ := six_of hc.2
    unfold factOfW at he
    rw [itemsW_is hc.1 hc.2, el] at he
    injection he with he
    rw [e, el, ← he]
    rw [el] at hy
    unfold factW factL
    rw [← fit_num (hy a (by simp)) ha, ← fit_num (hy b (by simp)) hb, ← fit_txt (hy c (by simp)) hcc, ← fit_num (hy d (by simp)) hd, ← fit_txt (hy u (by simp)) hu, ← fit_num (hy f (by simp)) hf]
  · rw [factOfW_no hc] at he; cases he
theorem runOfW_run (r : Rn) : runOfW (runW r) = some r := rfl
theorem factOfW_fact (r : Fc) : factOfW (factW r) = some r := rfl
theorem stOfW_is {x : Wr} {s : St} (h : x.may = true) (he : stOfW x = some s) : x = stW s ∧ s.seen.length ≤ 65536 := by
  by_cases hc : x.k = 3 ∧ x.l.map Wr.k = [3, 3]
  · unfold Wr.may at h
    obtain ⟨e, _, hy⟩ := fit_lst h hc.1
    obtain ⟨a, b, el, ha, hb⟩ := two_of hc.2
    unfold stOfW at he
    rw [itemsW_is hc.1 hc.2, el] at he
    obtain ⟨r, hr, he⟩ := Option.bind_eq_some_iff.1 he
    obtain ⟨f, hf, he⟩ := Option.bind_eq_some_iff.1 he
    injection he with he
    rw [el] at hy
    obtain ⟨ea, la, ya⟩ := fit_lst (hy a (by simp)) ha
    obtain ⟨eb, lb, yb⟩ := fit_lst (hy b (by simp)) hb
    have e1 : a.l = r.map runW := allOf_is (P := fun x => x.fit _ = true) runOfW_is ya hr
    have e2 : b.l = f.map factW := allOf_is (P := fun x => x.fit _ = true) factOfW_is yb hf
    rw [← he]
    refine ⟨?_, by have := allOf_len hr; show r.length ≤ _; omega⟩
    rw [e, el, ea, eb, e1, e2]; rfl
  · rw [stOfW_no hc] at he; cases he
theorem stOfW_st (s : St) : stOfW (stW s) = some s := by
  obtain ⟨a, b, q, _, _, he⟩ := stOfW_of (x := stW s) ⟨rfl, rfl⟩
  rw [he]
  have q1 : [lW (s.seen.map runW), lW (s.facts.map factW)] = [a, b] := q
  injection q1 with q1 q2
  injection q2 with q2 _
  rw [← q1, ← q2]
  show (allOf runOfW (s.seen.map runW)).bind _ = _
  rw [allOf_map runOfW_run]
  show (allOf factOfW (s.facts.map factW)).bind _ = _
  rw [allOf_map factOfW_fact]; rfl
/-- Bytes are a state's just if they are a wire that says it, and it may be. -/
theorem isPut_get {b : List UInt8} {s : St} (h : IsPut b s) : get b = some (stW s) ∧ stOfW (stW s) = some s := ⟨put_get h, stOfW_st s⟩
theorem isPut_of {b : List UInt8} {x : Wr} {s : St} (hg : get b = some x) (hx : stOfW x = some s) (hm : MayS s) : IsPut b s := by
  obtain ⟨e, hl⟩ := stOfW_is (get_back hg).2.1 hx
  exact put_back ⟨hm, hl⟩ (by rw [hg, e])
theorem isPut_none {b : List UInt8} (h : get b = none) (s : St) : ¬ IsPut b s := fun k => by rw [put_get k] at h; cases h
theorem isPut_nowire {b : List UInt8} {x : Wr} (hg : get b = some x) (h : stOfW x = none) (s : St) : ¬ IsPut b s := fun k => by
  obtain ⟨h1, h2⟩ := isPut_get k
  rw [hg] at h1
  injection h1 with h1
  rw [h1, h2] at h; cases h
theorem isPut_nomay {b : List UInt8} {x : Wr} {s : St} (hg : get b = some x) (hx : stOfW x = some s) (hm : ¬ MayS s) (t : St) : ¬ IsPut b t := fun k => by
  obtain ⟨h1, h2⟩ := isPut_get k
  rw [hg] at h1
  injection h1 with h1
  rw [h1, h2] at hx
  injection hx with hx
  exact hm (hx ▸ k.1.1)
end Go.Proofs.YthijiefopcnclaaGreatDoor.Dt
