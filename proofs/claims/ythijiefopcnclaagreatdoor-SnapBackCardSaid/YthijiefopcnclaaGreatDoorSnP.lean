/- States as bytes: what is told again, and what is none. -/
import Derived.Test.YthijiefopcnclaaGreatDoorPsT
import Derived.Test.YthijiefopcnclaaGreatDoorFtB
set_option linter.unusedVariables false
namespace Go.Proofs.YthijiefopcnclaaGreatDoor.Dt
open Go Go.Proofs.YthijiefopcnclaaGreatDoor.Vw

theorem nW_fit (n R : Int) : (nW n).fit R = true := by unfold nW; rw [fit_mk, if_pos rfl]; rfl
theorem tW_fit {s : ByteArray} (h : s.size ≤ 1048576) (R : Int) : (tW s).fit R = true := by unfold tW; rw [fit_mk, if_neg (by decide), if_pos rfl]; simp [h]
theorem allFit_of {R : Int} : ∀ {l : List Wr}, (∀ x ∈ l, x.fit R = true) → allFit R l = true
  | [], _ => allFit_nil R
  | x :: r, h => by rw [allFit_cons, h x (by simp), allFit_of fun y hy => h y (by simp [hy])]; rfl
theorem lW_fit {l : List Wr} {R : Int} (h0 : 0 < R) (hl : l.length ≤ 65536) (h : ∀ x ∈ l, x.fit (R - 1) = true) : (lW l).fit R = true := by
  unfold lW; rw [fit_mk, if_neg (by decide), if_neg (by decide), if_pos rfl, allFit_of h, show (⟨#[]⟩ : ByteArray).size = 0 from rfl]; simp [h0, hl]
theorem runW_fit (r : Rn) {R : Int} (h : 0 < R) : (runW r).fit R = true :=
  lW_fit h (show 3 ≤ 65536 by decide) fun x hx => by
    simp only [List.mem_cons, List.not_mem_nil, or_false] at hx
    rcases hx with rfl | rfl | rfl <;> exact nW_fit _ _
theorem factW_fit {f : Fc} (hf : RightF f) {R : Int} (h : 0 < R) : (factW f).fit R = true := by
  have h1 : f.key.size ≤ 1048576 := by unfold RightF at hf; omega
  have h2 : f.item.size ≤ 1048576 := by unfold RightF at hf; omega
  exact lW_fit h (show 6 ≤ 65536 by decide) fun x hx => by
    unfold factL at hx
    simp only [List.mem_cons, List.not_mem_nil, or_false] at hx
    rcases hx with rfl | rfl | rfl | rfl | rfl | rfl
    · exact nW_fit _ _
    · exact nW_fit _ _
    · exact tW_fit h1 _
    · exact nW_fit _ _
    · exact tW_fit h2 _
    · exact nW_fit _ _
/-- A state whose bytes there are: it may be, and its runs go into a list. -/
def Puts (s : St) : Prop := MayS s ∧ s.seen.length ≤ 65536
theorem st_may {s : St} (h : Puts s) : (stW s).may = true := by
  unfold Wr.may stW
  refine lW_fit (by decide) (show 2 ≤ 65536 by decide) fun x hx => ?_
  simp only [List.mem_cons, List.not_mem_nil, or_false] at hx
  rcases hx with rfl | rfl
  · refine lW_fit (by decide) (by rw [List.length_map]; exact h.2) fun x hx => ?_
    obtain ⟨r, _, rfl⟩ := List.mem_map.1 hx
    exact runW_fit r (by decide)
  · refine lW_fit (by decide) (by rw [List.length_map]; have := h.1.2.1; omega) fun x hx => ?_
    obtain ⟨f, hf, rfl⟩ := List.mem_map.1 hx
    exact factW_fit (h.1.2.2.1 f hf).1 (by decide)
/-- All its numbers go into 64 bits. -/
theorem st_in {s : St} (h : MayS s) : (stW s).in64 = true := by
  have hn : ∀ n : Int, -4503599627370496 ≤ n ∧ n ≤ 4503599627370496 → (nW n).in64 = true := fun n hn => num_in n (by omega)
  refine lst_in _ fun x hx => ?_
  simp only [List.mem_cons, List.not_mem_nil, or_false] at hx
  rcases hx with rfl | rfl
  · refine lst_in _ fun x hx => ?_
    obtain ⟨r, hr, rfl⟩ := List.mem_map.1 hx
    have hk := h.1.1 r hr
    unfold Ok at hk
    refine lst_in _ fun x hx => ?_
    simp only [List.mem_cons, List.not_mem_nil, or_false] at hx
    rcases hx with rfl | rfl | rfl
    · exact hn _ (by omega)
    · exact hn _ (by omega)
    · exact hn _ (by omega)
  · refine lst_in _ fun x hx => ?_
    obtain ⟨f, hf, rfl⟩ := List.mem_map.1 hx
    obtain ⟨hr, q, hq, h1, h2, h3⟩ := h.2.2.1 f hf
    have hk := h.1.1 q hq
    unfold Ok at hk
    unfold RightF at hr
    refine lst_in _ fun x hx => ?_
    unfold factL at hx
    simp only [List.mem_cons, List.not_mem_nil, or_false] at hx
    rcases hx with rfl | rfl | rfl | rfl | rfl | rfl
    · exact hn _ (by omega)
    · exact hn _ (by omega)
    · exact txt_in _
    · exact hn _ (by omega)
    · exact txt_in _
    · exact hn _ (by omega)
theorem nW_inj {a b : Int} (h : nW a = nW b) : a = b := by unfold nW at h; injection h
theorem tW_inj {a b : ByteArray} (h : tW a = tW b) : a = b := by unfold tW at h; injection h
theorem lW_inj {a b : List Wr} (h : lW a = lW b) : a = b := by unfold lW at h; injection h
theorem map_inj {α β : Type} {f : α → β} (hf : ∀ a b, f a = f b → a = b) : ∀ {l k : List α}, l.map f = k.map f → l = k
  | [], [], _ => rfl
  | [], _ :: _, h => by cases h
  | _ :: _, [], h => by cases h
  | a :: l, b :: k, h => by
    injection h with h1 h2
    rw [hf a b h1, map_inj hf h2]
/-- Another wire for another state. -/
theorem st_inj {s t : St} (h : stW s = stW t) : s = t := by
  have h := lW_inj h
  injection h with h1 h2
  injection h2 with h2 _
  have e1 : s.seen = t.seen := map_inj (fun a b e => by
    have e := lW_inj e
    injection e with e1 e
    injection e with e2 e
    injection e with e3 _
    obtain ⟨a1, a2, a3⟩ := a
    obtain ⟨b1, b2, b3⟩ := b
    have e1 := nW_inj e1; have e2 := nW_inj e2; have e3 := nW_inj e3
    dsimp only at e1 e2 e3
    rw [e1, e2, e3]) (lW_inj h1)
  have e2 : s.facts = t.facts := map_inj (fun a b e => by
    have e := lW_inj e
    unfold factL at e
    injection e with e1 e
    injection e with e2 e
    injection e with e3 e
    injection e with e4 e
    injection e with e5 e
    injection e with e6 _
    obtain ⟨a1, a2, a3, a4, a5, a6⟩ := a
    obtain ⟨b1, b2, b3, b4, b5, b6⟩ := b
    have e1 := nW_inj e1; have e2 := nW_inj e2; have e3 := tW_inj e3; have e4 := nW_inj e4; have e5 := tW_inj e5; have e6 := nW_inj e6
    dsimp only at e1 e2 e3 e4 e5 e6
    rw [e1, e2, e3, e4, e5, e6]) (lW_inj h2)
  cases s; cases t; dsimp only at e1 e2; rw [e1, e2]

/-- These are the state's bytes. -/
def IsPut (b : List UInt8) (s : St) : Prop := Puts s ∧ b = (stW s).enc
theorem put_bytes {s : St} (h : Puts s) : (stW s).bytes = ⟨(stW s).enc.toArray⟩ := by unfold Wr.bytes; rw [if_pos (st_may h)]
theorem put_ne {b : List UInt8} {s : St} (h : IsPut b s) : b ≠ [] := fun e => by
  have := h.2; rw [e] at this
  have hl : (stW s).enc.length = 5 + (encs [lW (s.seen.map runW), lW (s.facts.map factW)]).length := lW_len _
  rw [← this] at hl
  simp at hl
  omega
/-- What its bytes say: it, and no other one. -/
theorem put_get {b : List UInt8} {s : St} (h : IsPut b s) : get b = some (stW s) := by rw [h.2]; exact get_enc _ (st_may h.1) (st_in h.1.1)
theorem put_one {b : List UInt8} {s t : St} (h : IsPut b s) (k : IsPut b t) : s = t := st_inj (Option.some.inj ((put_get h).symm.trans (put_get k)))
theorem put_back {b : List UInt8} {s : St} (h : Puts s) (hg : get b = some (stW s)) : IsPut b s := ⟨h, (get_back hg).1⟩
/-- States have the same bytes just if they are the same. -/
theorem put_same {s t : St} (h : Puts s) (k : Puts t) : (stW s).enc = (stW t).enc ↔ s = t := ⟨fun e => put_one ⟨h, rfl⟩ ⟨k, e⟩, fun e => by rw [e]⟩
/-- Cut, they say nothing; longer, too. -/
theorem put_cut {s t : St} (h : Puts s) {q : Nat} (hq : q < (stW s).enc.length) : ¬ IsPut ((stW s).enc.take q) t := fun k => by
  have := put_get k
  rw [get_cut _ (st_may h) (st_in h.1) q hq] at this
  cases this
theorem put_longer {s t : St} (h : Puts s) {r : List UInt8} (hr : r ≠ []) : ¬ IsPut ((stW s).enc ++ r) t := fun k => by
  have := put_get k
  rw [get_longer _ (st_may h) (st_in h.1) r hr] at this
  cases this
/-- Other bytes say another state. -/
theorem put_other {s t : St} {b : List UInt8} (hb : b ≠ (stW s).enc) (k : IsPut b t) : t ≠ s := fun e => hb (by rw [k.2, e])
/-- How long the bytes are. -/
def sizeF : List Fc → Nat
  | [] => 0
  | f :: l => 51 + f.key.size + f.item.size + sizeF l
theorem facts_size : ∀ l : List Fc, (encs (l.map factW)).length = sizeF l
  | [] => by rw [List.map_nil, encs_nil]; rfl
  | f :: l => by
    rw [List.map_cons, encs_cons, List.length_append, facts_size l, sizeF]
    unfold factW factL
    rw [lW_len, encs_cons, encs_cons, encs_cons, encs_cons, encs_cons, encs_cons, encs_nil]
    simp only [List.length_append, nW_len, tW_len, List.length_nil]; omega
theorem runs_size : ∀ l : List Rn, (encs (l.map runW)).length = 32 * l.length
  | [] => by rw [List.map_nil, encs_nil]; rfl
  | r :: l => by
    rw [List.map_cons, encs_cons, List.length_append, runs_size l, List.length_cons]
    unfold runW
    rw [lW_len, encs_cons, encs_cons, encs_cons, encs_nil]
    simp only [List.length_append, nW_len, List.length_nil]; omega
theorem put_size (s : St) : (stW s).enc.length = 15 + 32 * s.seen.length + sizeF s.facts := by
  unfold stW
  rw [lW_len, encs_cons, encs_cons, encs_nil, List.length_append, List.length_append, lW_len, lW_len, List.length_nil, runs_size, facts_size]
  omega
/-- A fact that isn't right; a run of a device that there is not. -/
theorem not_may_right {s : St} {f : Fc} (hf : f ∈ s.facts) (h : ¬ RightF f) : ¬ MayS s := fun hm => h (hm.2.2.1 f hf).1
theorem not_may_run {s : St} {r : Rn} (hr : r ∈ s.seen) (h : ¬ Ok r) : ¬ MayS s := fun hm => h (hm.1.1 r hr)
theorem not_may_far {s : St} {K : Nat} (hl : Low s K) {f : Fc} (hf : f ∈ s.facts) (h : (K : Int) < f.n) : ¬ MayS s := fun hm => by
  have := hl _ _ (hm.2.2.1 f hf).2
  omega
end Go.Proofs.YthijiefopcnclaaGreatDoor.Dt
