/- Wires, pure: numbers, texts, lists; what a list of just these kinds has. -/
import Derived.Test.YtaecfcodldbnhaaVPA
set_option linter.unusedVariables false
namespace Go.Proofs.Ytaecfcodldbnhaa.Dt
open Go Go.Proofs.Ytaecfcodldbnhaa.Vw

/-- A number as a wire. -/
def nW (n : Int) : Wr := .mk 1 n ⟨#[]⟩ []
def tW (s : ByteArray) : Wr := .mk 2 0 s []
def lW (l : List Wr) : Wr := .mk 3 0 ⟨#[]⟩ l
theorem encs_le {C : Nat} : ∀ {xs : List Wr}, (∀ x ∈ xs, x.enc.length ≤ C) → (encs xs).length ≤ C * xs.length
  | [], _ => by simp [encs_nil]
  | x :: xs, h => by
    have h1 := h x (by simp)
    have h2 := encs_le (xs := xs) fun y hy => h y (by simp [hy])
    rw [encs_cons, List.length_append, List.length_cons, Nat.mul_succ]; omega
theorem nW_len (n : Int) : (nW n).enc.length = 9 := rfl
theorem tW_len (s : ByteArray) : (tW s).enc.length = 5 + s.size := by
  unfold tW; rw [enc_mk, if_neg (by decide), if_pos rfl]; simp [highs_len]; omega
theorem lW_len (l : List Wr) : (lW l).enc.length = 5 + (encs l).length := lst_len l
theorem nW_fit (n R : Int) : (nW n).fit R = true := by unfold nW; rw [fit_mk, if_pos rfl]; rfl
theorem tW_fit {s : ByteArray} (h : s.size ≤ 1048576) (R : Int) : (tW s).fit R = true := by unfold tW; rw [fit_mk, if_neg (by decide), if_pos rfl]; simp [h]
theorem allFit_of {R : Int} : ∀ {l : List Wr}, (∀ x ∈ l, x.fit R = true) → allFit R l = true
  | [], _ => allFit_nil R
  | x :: r, h => by rw [allFit_cons, h x (by simp), allFit_of fun y hy => h y (by simp [hy])]; rfl
theorem lW_fit {l : List Wr} {R : Int} (h0 : 0 < R) (hl : l.length ≤ 65536) (h : ∀ x ∈ l, x.fit (R - 1) = true) : (lW l).fit R = true := by
  unfold lW; rw [fit_mk, if_neg (by decide), if_neg (by decide), if_pos rfl, allFit_of h, show (⟨#[]⟩ : ByteArray).size = 0 from rfl]; simp [h0, hl]
theorem nW_inj {a b : Int} (h : nW a = nW b) : a = b := by unfold nW at h; injection h
theorem tW_inj {a b : ByteArray} (h : tW a = tW b) : a = b := by unfold tW at h; injection h
theorem lW_inj {a b : List Wr} (h : lW a = lW b) : a = b := by unfold lW at h; injection h
theorem map_inj {α β : Type} {f : α → β} (hf : ∀ a b, f a = f b → a = b) : ∀ {l k : List α}, l.map f = k.map f → l = k
  | [], [], _ => rfl
  | [], _ :: _, h => by cases h
  | _ :: _, [], h => by cases h
  | a :: l, b :: k, h => by
    injection h with h1 h2
    rw [hf a b h1, map_inj hf h2]
/-- What a wire has, if it is a list of just these kinds. -/
def itemsW (x : Wr) (ks : List Int) : Option (List Wr) := if x.k = 3 ∧ x.l.map Wr.k = ks then some x.l else none
/-- What each of them says, if each says something. -/
def allOf {α : Type} (f : Wr → Option α) : List Wr → Option (List α)
  | [] => some []
  | x :: l => (f x).bind fun a => (allOf f l).bind fun r => some (a :: r)
theorem itemsW_yes {x : Wr} {ks : List Int} {l : List Wr} (h : itemsW x ks = some l) : x.k = 3 ∧ x.l.map Wr.k = ks ∧ l = x.l := by
  unfold itemsW at h
  split at h
  · rename_i hc; injection h with h; exact ⟨hc.1, hc.2, h.symm⟩
  · cases h
theorem itemsW_no {x : Wr} {ks : List Int} (h : ¬ (x.k = 3 ∧ x.l.map Wr.k = ks)) : itemsW x ks = none := if_neg h
theorem itemsW_is {x : Wr} {ks : List Int} (h : x.k = 3) (hk : x.l.map Wr.k = ks) : itemsW x ks = some x.l := if_pos ⟨h, hk⟩
theorem three_of {l : List Wr} {a b c : Int} (h : l.map Wr.k = [a, b, c]) : ∃ x y z, l = [x, y, z] ∧ x.k = a ∧ y.k = b ∧ z.k = c := by
  match l, h with
  | [x, y, z], h =>
    simp only [List.map_cons, List.map_nil, List.cons.injEq, and_true] at h
    exact ⟨x, y, z, rfl, h.1, h.2.1, h.2.2⟩
theorem two_of {l : List Wr} {a b : Int} (h : l.map Wr.k = [a, b]) : ∃ x y, l = [x, y] ∧ x.k = a ∧ y.k = b := by
  match l, h with
  | [x, y], h =>
    simp only [List.map_cons, List.map_nil, List.cons.injEq, and_true] at h
    exact ⟨x, y, rfl, h.1, h.2⟩
theorem six_of {l : List Wr} {a b c d e f : Int} (h : l.map Wr.k = [a, b, c, d, e, f]) : ∃ x y z u v w, l = [x, y, z, u, v, w] ∧ x.k = a ∧ y.k = b ∧ z.k = c ∧ u.k = d ∧ v.k = e ∧ w.k = f := by
  match l, h with
  | [x, y, z, u, v, w], h =>
    simp only [List.map_cons, List.map_nil, List.cons.injEq, and_true] at h
    exact ⟨x, y, z, u, v, w, rfl, h.1, h.2.1, h.2.2.1, h.2.2.2.1, h.2.2.2.2.1, h.2.2.2.2.2⟩
theorem allOf_len {α : Type} {f : Wr → Option α} : ∀ {l : List Wr} {r : List α}, allOf f l = some r → r.length = l.length
  | [], r, h => by injection h with h; rw [← h]; rfl
  | x :: l, r, h => by
    rw [allOf] at h
    obtain ⟨a, _, h⟩ := Option.bind_eq_some_iff.1 h
    obtain ⟨q, hq, h⟩ := Option.bind_eq_some_iff.1 h
    injection h with h
    rw [← h, List.length_cons, List.length_cons, allOf_len hq]
theorem allOf_snoc {α : Type} {f : Wr → Option α} : ∀ {l : List Wr} {r : List α} {x : Wr} {a : α}, allOf f l = some r → f x = some a → allOf f (l ++ [x]) = some (r ++ [a])
  | [], r, x, a, h, hx => by injection h with h; rw [← h]; simp [allOf, hx]
  | y :: l, r, x, a, h, hx => by
    rw [allOf] at h
    obtain ⟨b, hb, h⟩ := Option.bind_eq_some_iff.1 h
    obtain ⟨q, hq, h⟩ := Option.bind_eq_some_iff.1 h
    injection h with h
    rw [← h, List.cons_append, allOf, hb, allOf_snoc hq hx]; rfl
theorem allOf_bad {α : Type} {f : Wr → Option α} : ∀ {l : List Wr} {x : Wr}, x ∈ l → f x = none → allOf f l = none
  | y :: l, x, h, hx => by
    rw [allOf]
    rcases List.mem_cons.1 h with rfl | h
    · rw [hx]; rfl
    · rw [allOf_bad h hx]; cases f y <;> rfl
theorem allOf_is {α : Type} {f : Wr → Option α} {g : α → Wr} {P : Wr → Prop} (hf : ∀ x a, P x → f x = some a → x = g a) : ∀ {l : List Wr} {r : List α}, (∀ x ∈ l, P x) → allOf f l = some r → l = r.map g
  | [], r, _, h => by injection h with h; rw [← h]; rfl
  | x :: l, r, hP, h => by
    rw [allOf] at h
    obtain ⟨a, ha, h⟩ := Option.bind_eq_some_iff.1 h
    obtain ⟨q, hq, h⟩ := Option.bind_eq_some_iff.1 h
    injection h with h
    rw [← h, List.map_cons, ← hf x a (hP x (by simp)) ha, ← allOf_is hf (fun y hy => hP y (by simp [hy])) hq]
theorem allOf_map {α : Type} {f : Wr → Option α} {g : α → Wr} (hf : ∀ a, f (g a) = some a) : ∀ r : List α, allOf f (r.map g) = some r
  | [] => rfl
  | a :: r => by rw [List.map_cons, allOf, hf a, allOf_map hf r]; rfl

theorem fit_num {x : Wr} {R : Int} (h : x.fit R = true) (hk : x.k = 1) : x = nW x.n := by
  obtain ⟨k, n, s, l⟩ := x
  obtain rfl : k = 1 := hk
  rw [fit_mk, if_pos rfl] at h
  simp only [Bool.and_eq_true, beq_iff_eq] at h
  rw [zero_text h.1, List.length_eq_zero_iff.1 h.2]; rfl
theorem fit_txt {x : Wr} {R : Int} (h : x.fit R = true) (hk : x.k = 2) : x = tW x.s := by
  obtain ⟨k, n, s, l⟩ := x
  obtain rfl : k = 2 := hk
  rw [fit_mk, if_neg (by decide), if_pos rfl] at h
  simp only [Bool.and_eq_true, beq_iff_eq, decide_eq_true_eq] at h
  rw [h.1.1, List.length_eq_zero_iff.1 h.2]; rfl
theorem fit_lst {x : Wr} {R : Int} (h : x.fit R = true) (hk : x.k = 3) : x = lW x.l ∧ x.l.length ≤ 65536 ∧ ∀ y ∈ x.l, y.fit (R - 1) = true := by
  obtain ⟨k, n, s, l⟩ := x
  obtain rfl : k = 3 := hk
  rw [fit_mk, if_neg (by decide), if_neg (by decide), if_pos rfl] at h
  simp only [Bool.and_eq_true, beq_iff_eq, decide_eq_true_eq] at h
  refine ⟨?_, h.2.1, mem_fit h.2.2⟩
  rw [zero_text h.1.1.2, h.1.1.1]; rfl
end Go.Proofs.Ytaecfcodldbnhaa.Dt
