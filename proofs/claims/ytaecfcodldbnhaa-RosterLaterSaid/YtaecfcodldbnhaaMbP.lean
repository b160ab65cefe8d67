/- Records, pure: which may be, their bytes, their heads, what bytes say. -/
import Derived.Test.YtaecfcodldbnhaaWrP
set_option linter.unusedVariables false
namespace Go.Proofs.Ytaecfcodldbnhaa.Mb
open Go Go.Proofs.Ytaecfcodldbnhaa.Vw Go.Proofs.Ytaecfcodldbnhaa.Dt

/-- A wrap: whose, and the box. -/
structure Wp where
  d : Int
  box : ByteArray
/-- A record. -/
structure Rc where
  seq : Int
  prev : ByteArray
  kind : Int
  dev : Int
  wraps : List Wp
  tag : ByteArray
def RightW (w : Wp) : Prop := 0 ≤ w.d ∧ w.d < 8 ∧ w.box.size ≤ 200
/-- By rising devices. -/
def RiseW (l : List Wp) : Prop := ∀ i a b, l[i]? = some a → l[i + 1]? = some b → a.d < b.d
def MayH (r : Rc) : Prop := 1 ≤ r.seq ∧ r.seq ≤ 1048576 ∧ (r.prev.size = 32 ∨ r.seq = 1 ∧ r.prev.size = 0) ∧ (r.kind = 1 ∨ r.kind = 2) ∧ 0 ≤ r.dev ∧ r.dev < 8 ∧ (r.tag.size = 16 ∨ r.tag.size = 0)
def MayR (r : Rc) : Prop := MayH r ∧ (∀ w ∈ r.wraps, RightW w) ∧ RiseW r.wraps

theorem rise_at {l : List Wp} (h : RiseW l) (h0 : ∀ w ∈ l, RightW w) : ∀ (i : Nat) (a : Wp), l[i]? = some a → (i : Int) ≤ a.d
  | 0, a, ha => by have := (h0 a (List.mem_of_getElem? ha)).1; omega
  | i + 1, a, ha => by
    obtain ⟨b, hb⟩ : ∃ b, l[i]? = some b := ⟨_, List.getElem?_eq_getElem (by have := (List.getElem?_eq_some_iff.1 ha).1; omega)⟩
    have h1 := rise_at h h0 i b hb
    have h2 := h i b a hb ha
    omega
theorem rise_len {l : List Wp} (h : RiseW l) (h0 : ∀ w ∈ l, RightW w) : l.length ≤ 8 := by
  rcases Nat.lt_or_ge 8 l.length with h1 | h1
  · obtain ⟨a, ha⟩ : ∃ a, l[8]? = some a := ⟨_, List.getElem?_eq_getElem h1⟩
    have h2 := rise_at h h0 8 a ha
    have h3 := (h0 a (List.mem_of_getElem? ha)).2.1
    omega
  · exact h1
theorem rise_nil : RiseW [] := fun i a b h _ => by simp at h
/-- As the programs look: one by one, each above the one ahead. -/
def LastW (l : List Wp) : Int := match l.getLast? with | some w => w.d | none => -1
theorem rise_snoc {l : List Wp} {w : Wp} : RiseW (l ++ [w]) ↔ RiseW l ∧ (∀ a, l.getLast? = some a → a.d < w.d) := by
  constructor
  · intro h
    refine ⟨fun i a b ha hb => ?_, fun a ha => ?_⟩
    · have h1 := (List.getElem?_eq_some_iff.1 ha).1
      have h2 := (List.getElem?_eq_some_iff.1 hb).1
      exact h i a b (by rw [List.getElem?_append_left h1]; exact ha) (by rw [List.getElem?_append_left h2]; exact hb)
    · rw [List.getLast?_eq_getElem?] at ha
      have h1 := (List.getElem?_eq_some_iff.1 ha).1
      exact h (l.length - 1) a w (by rw [List.getElem?_append_left h1]; exact ha) (by rw [show l.length - 1 + 1 = l.length by omega, List.getElem?_append_right (Nat.le_refl _)]; simp)
  · rintro ⟨h, hl⟩ i a b ha hb
    have hlt := (List.getElem?_eq_some_iff.1 hb).1
    rw [List.length_append, List.length_singleton] at hlt
    by_cases hi : i + 1 < l.length
    · rw [List.getElem?_append_left (by omega)] at ha
      rw [List.getElem?_append_left hi] at hb
      exact h i a b ha hb
    · have e : i + 1 = l.length := by omega
      rw [List.getElem?_append_left (by omega)] at ha
      rw [e, List.getElem?_append_right (Nat.le_refl _)] at hb
      simp only [Nat.sub_self, List.getElem?_cons_zero, Option.some.injEq] at hb
      subst hb
      exact hl a (by rw [List.getLast?_eq_getElem?, show l.length - 1 = i by omega]; exact ha)
theorem rise_take {l : List Wp} (h : RiseW l) (k : Nat) : RiseW (l.take k) := fun i a b ha hb => by
  rw [List.getElem?_take] at ha hb
  split at ha <;> split at hb
  · exact h i a b ha hb
  · cases hb
  · cases ha
  · cases ha

/-! ### As wires -/
def wrapW (w : Wp) : Wr := lW [nW w.d, tW w.box]
def recL (r : Rc) : List Wr := [nW r.seq, tW r.prev, nW r.kind, nW r.dev, lW (r.wraps.map wrapW), tW r.tag]
def recW (r : Rc) : Wr := lW (recL r)
def headW (r : Rc) : Wr := lW [nW r.seq, nW r.kind, nW r.dev, tW r.prev]
theorem wrap_fit {w : Wp} (h : RightW w) {R : Int} (h0 : 0 < R) : (wrapW w).fit R = true :=
  lW_fit h0 (show 2 ≤ 65536 by decide) fun x hx => by
    simp only [List.mem_cons, List.not_mem_nil, or_false] at hx
    rcases hx with rfl | rfl
    · exact nW_fit _ _
    · exact tW_fit (by have := h.2.2; omega) _
theorem prev_le {r : Rc} (h : MayH r) : r.prev.size ≤ 32 := by unfold MayH at h; omega
theorem tag_le {r : Rc} (h : MayH r) : r.tag.size ≤ 16 := by unfold MayH at h; omega
theorem rec_may {r : Rc} (h : MayR r) : (recW r).may = true := by
  have hp := prev_le h.1
  have ht := tag_le h.1
  unfold Wr.may recW recL
  refine lW_fit (by decide) (show 6 ≤ 65536 by decide) fun x hx => ?_
  simp only [List.mem_cons, List.not_mem_nil, or_false] at hx
  rcases hx with rfl | rfl | rfl | rfl | rfl | rfl
  · exact nW_fit _ _
  · exact tW_fit (by omega) _
  · exact nW_fit _ _
  · exact nW_fit _ _
  · refine lW_fit (by decide) (by rw [List.length_map]; have := rise_len h.2.2 h.2.1; omega) fun x hx => ?_
    obtain ⟨w, hw, rfl⟩ := List.mem_map.1 hx
    exact wrap_fit (h.2.1 w hw) (by decide)
  · exact tW_fit (by omega) _
theorem head_may {r : Rc} (h : MayH r) : (headW r).may = true := by
  have hp := prev_le h
  unfold Wr.may headW
  refine lW_fit (by decide) (show 4 ≤ 65536 by decide) fun x hx => ?_
  simp only [List.mem_cons, List.not_mem_nil, or_false] at hx
  rcases hx with rfl | rfl | rfl | rfl
  · exact nW_fit _ _
  · exact nW_fit _ _
  · exact nW_fit _ _
  · exact tW_fit (by omega) _
theorem nin (n : Int) (h : -9223372036854775808 ≤ n ∧ n ≤ 9223372036854775807) : (nW n).in64 = true := num_in n h
theorem tin (s : ByteArray) : (tW s).in64 = true := txt_in s
theorem lin (l : List Wr) (h : ∀ x ∈ l, x.in64 = true) : (lW l).in64 = true := lst_in l h
theorem rec_in {r : Rc} (h : MayR r) : (recW r).in64 = true := by
  have hh := h.1
  unfold MayH at hh
  unfold recW recL
  refine lin _ fun x hx => ?_
  simp only [List.mem_cons, List.not_mem_nil, or_false] at hx
  rcases hx with rfl | rfl | rfl | rfl | rfl | rfl
  · exact nin _ (by omega)
  · exact tin _
  · exact nin _ (by omega)
  · exact nin _ (by omega)
  · refine lin _ fun x hx => ?_
    obtain ⟨w, hw, rfl⟩ := List.mem_map.1 hx
    have hr := h.2.1 w hw
    unfold RightW at hr
    refine lin _ fun x hx => ?_
    simp only [List.mem_cons, List.not_mem_nil, or_false] at hx
    rcases hx with rfl | rfl
    · exact nin _ (by omega)
    · exact tin _
  · exact tin _
theorem head_in {r : Rc} (h : MayH r) : (headW r).in64 = true := by
  unfold MayH at h
  unfold headW
  refine lin _ fun x hx => ?_
  simp only [List.mem_cons, List.not_mem_nil, or_false] at hx
  rcases hx with rfl | rfl | rfl | rfl
  · exact nin _ (by omega)
  · exact nin _ (by omega)
  · exact nin _ (by omega)
  · exact tin _
theorem wrap_inj {a b : Wp} (h : wrapW a = wrapW b) : a = b := by
  have e := lW_inj h
  injection e with e1 e
  injection e with e2 _
  obtain ⟨a1, a2⟩ := a
  obtain ⟨b1, b2⟩ := b
  have e1 := nW_inj e1; have e2 := tW_inj e2
  dsimp only at e1 e2
  rw [e1, e2]
theorem rec_inj {a b : Rc} (h : recW a = recW b) : a = b := by
  have e := lW_inj h
  unfold recL at e
  injection e with e1 e
  injection e with e2 e
  injection e with e3 e
  injection e with e4 e
  injection e with e5 e
  injection e with e6 _
  obtain ⟨a1, a2, a3, a4, a5, a6⟩ := a
  obtain ⟨b1, b2, b3, b4, b5, b6⟩ := b
  have e1 := nW_inj e1; have e2 := tW_inj e2; have e3 := nW_inj e3; have e4 := nW_inj e4; have e5 := map_inj (fun _ _ => wrap_inj) (lW_inj e5); have e6 := tW_inj e6
  dsimp only at e1 e2 e3 e4 e5 e6
  rw [e1, e2, e3, e4, e5, e6]
theorem head_inj {a b : Rc} (h : headW a = headW b) : a.seq = b.seq ∧ a.kind = b.kind ∧ a.dev = b.dev ∧ a.prev = b.prev := by
  have e := lW_inj h
  injection e with e1 e
  injection e with e2 e
  injection e with e3 e
  injection e with e4 _
  exact ⟨nW_inj e1, nW_inj e2, nW_inj e3, tW_inj e4⟩
theorem head_eq {a b : Rc} (h : a.seq = b.seq ∧ a.kind = b.kind ∧ a.dev = b.dev ∧ a.prev = b.prev) : headW a = headW b := by
  unfold headW; rw [h.1, h.2.1, h.2.2.1, h.2.2.2]

/-! ### As bytes -/
open Classical in
noncomputable def recB (r : Rc) : ByteArray := if MayR r then ⟨(recW r).enc.toArray⟩ else ⟨#[]⟩
open Classical in
noncomputable def headB (r : Rc) : ByteArray := if MayR r then ⟨(headW r).enc.toArray⟩ else ⟨#[]⟩
theorem recB_yes {r : Rc} (h : MayR r) : recB r = ⟨(recW r).enc.toArray⟩ := by unfold recB; rw [if_pos h]
theorem recB_no {r : Rc} (h : ¬ MayR r) : recB r = ⟨#[]⟩ := by unfold recB; rw [if_neg h]
theorem headB_yes {r : Rc} (h : MayR r) : headB r = ⟨(headW r).enc.toArray⟩ := by unfold headB; rw [if_pos h]
theorem headB_no {r : Rc} (h : ¬ MayR r) : headB r = ⟨#[]⟩ := by unfold headB; rw [if_neg h]
theorem recB_bytes {r : Rc} (h : MayR r) : recB r = (recW r).bytes := by rw [recB_yes h]; unfold Wr.bytes; rw [if_pos (rec_may h)]
theorem headB_bytes {r : Rc} (h : MayR r) : headB r = (headW r).bytes := by rw [headB_yes h]; unfold Wr.bytes; rw [if_pos (head_may h.1)]
/-- These are the record's bytes. -/
def IsRec (b : List UInt8) (r : Rc) : Prop := MayR r ∧ b = (recW r).enc
theorem rec_len (r : Rc) : 5 ≤ (recW r).enc.length := by unfold recW; rw [lW_len]; omega
theorem head_len (r : Rc) : 5 ≤ (headW r).enc.length := by unfold headW; rw [lW_len]; omega
theorem isRec_ne {b : List UInt8} {r : Rc} (h : IsRec b r) : b ≠ [] := fun e => by
  have h1 := rec_len r
  rw [← h.2, e] at h1
  simp at h1
theorem rec_get {b : List UInt8} {r : Rc} (h : IsRec b r) : get b = some (recW r) := by rw [h.2]; exact get_enc _ (rec_may h.1) (rec_in h.1)
theorem rec_one {b : List UInt8} {r t : Rc} (h : IsRec b r) (k : IsRec b t) : r = t := rec_inj (Option.some.inj ((rec_get h).symm.trans (rec_get k)))
theorem rec_back {b : List UInt8} {r : Rc} (h : MayR r) (hg : get b = some (recW r)) : IsRec b r := ⟨h, (get_back hg).1⟩
theorem rec_cut {r t : Rc} (h : MayR r) {q : Nat} (hq : q < (recW r).enc.length) : ¬ IsRec ((recW r).enc.take q) t := fun k => by
  have := rec_get k
  rw [get_cut _ (rec_may h) (rec_in h) q hq] at this
  cases this
theorem rec_longer {r t : Rc} (h : MayR r) {l : List UInt8} (hl : l ≠ []) : ¬ IsRec ((recW r).enc ++ l) t := fun k => by
  have := rec_get k
  rw [get_longer _ (rec_may h) (rec_in h) l hl] at this
  cases this
theorem rec_other {r t : Rc} {b : List UInt8} (hb : b ≠ (recW r).enc) (k : IsRec b t) : t ≠ r := fun e => hb (by rw [k.2, e])
/-- Heads hang on Seq, Prev, Kind, Dev alone. -/
theorem headB_ne {r : Rc} (h : MayR r) : headB r ≠ ⟨#[]⟩ := fun e => by
  have h1 := head_len r
  rw [headB_yes h] at e
  injection e with e
  have e := congrArg Array.size e
  rw [List.size_toArray] at e
  have e2 : (#[] : Array UInt8).size = 0 := rfl
  omega
theorem headB_is {a b : Rc} (ha : MayR a) (hb : MayR b) : headB a = headB b ↔ a.seq = b.seq ∧ a.kind = b.kind ∧ a.dev = b.dev ∧ a.prev = b.prev := by
  constructor
  · intro e
    rw [headB_yes ha, headB_yes hb] at e
    injection e with e
    have e : (headW a).enc = (headW b).enc := by simpa using congrArg Array.toList e
    have h1 := get_enc _ (head_may ha.1) (head_in ha.1)
    rw [e, get_enc _ (head_may hb.1) (head_in hb.1)] at h1
    exact head_inj (Option.some.inj h1).symm
  · intro h
    rw [headB_yes ha, headB_yes hb, head_eq h]
theorem wraps_size : ∀ l : List Wp, (∀ w ∈ l, RightW w) → (encs (l.map wrapW)).length ≤ 219 * l.length
  | [], _ => by rw [List.map_nil, encs_nil]; exact Nat.le_refl _
  | w :: l, h => by
    have h1 := wraps_size l fun x hx => h x (by simp [hx])
    have h2 := (h w (by simp)).2.2
    rw [List.map_cons, encs_cons, List.length_append, List.length_cons]
    rw [show wrapW w = lW [nW w.d, tW w.box] from rfl, lW_len, encs_cons, encs_cons, encs_nil, List.length_append, List.length_append, nW_len, tW_len, List.length_nil]
    omega
theorem rec_short {r : Rc} (h : MayR r) : (recW r).enc.length ≤ 2000 := by
  have h1 := wraps_size r.wraps h.2.1
  have h2 := rise_len h.2.2 h.2.1
  have h3 := prev_le h.1
  have h4 := tag_le h.1
  unfold recW recL
  rw [lW_len, encs_cons, encs_cons, encs_cons, encs_cons, encs_cons, encs_cons, encs_nil]
  simp only [List.length_append, nW_len, tW_len, lW_len, List.length_nil]
  omega
theorem head_short {r : Rc} (h : MayR r) : (headW r).enc.length ≤ 2000 := by
  have h3 := prev_le h.1
  unfold headW
  rw [lW_len, encs_cons, encs_cons, encs_cons, encs_cons, encs_nil]
  simp only [List.length_append, nW_len, tW_len, List.length_nil]
  omega
theorem recB_size {r : Rc} : (recB r).size ≤ 2000 := by
  by_cases h : MayR r
  · rw [recB_yes h]; show (recW r).enc.toArray.size ≤ _; rw [List.size_toArray]; exact rec_short h
  · rw [recB_no h]; exact Nat.zero_le _

/-! ### The way back from a wire -/
def wrapOfW (x : Wr) : Option Wp := match itemsW x [1, 2] with
  | some [a, b] => some ⟨a.n, b.s⟩
  | _ => none
def recOfW (x : Wr) : Option Rc := match itemsW x [1, 2, 1, 1, 3, 2] with
  | some [a, b, c, d, e, f] => (allOf wrapOfW e.l).bind fun l => some ⟨a.n, b.s, c.n, d.n, l, f.s⟩
  | _ => none
theorem wrapOfW_of {x : Wr} (h : x.k = 3 ∧ x.l.map Wr.k = [1, 2]) : ∃ a b, x.l = [a, b] ∧ wrapOfW x = some ⟨a.n, b.s⟩ := by
  obtain ⟨a, b, q, _⟩ := two_of h.2
  exact ⟨a, b, q, by unfold wrapOfW; rw [itemsW_is h.1 h.2, q]⟩
theorem wrapOfW_no {x : Wr} (h : ¬ (x.k = 3 ∧ x.l.map Wr.k = [1, 2])) : wrapOfW x = none := by unfold wrapOfW; rw [itemsW_no h]
theorem recOfW_of {x : Wr} (h : x.k = 3 ∧ x.l.map Wr.k = [1, 2, 1, 1, 3, 2]) : ∃ a b c d e f, x.l = [a, b, c, d, e, f] ∧ e.k = 3 ∧ recOfW x = (allOf wrapOfW e.l).bind fun l => some ⟨a.n, b.s, c.n, d.n, l, f.s⟩ := by
  obtain ⟨a, b, c, d, e, f, q, _, _, _, _, he, _⟩ := six_of h.2
  exact ⟨a, b, c, d, e, f, q, he, by unfold recOfW; rw [itemsW_is h.1 h.2, q]⟩
theorem recOfW_no {x : Wr} (h : ¬ (x.k = 3 ∧ x.l.map Wr.k = [1, 2, 1, 1, 3, 2])) : recOfW x = none := by unfold recOfW; rw [itemsW_no h]
theorem wrapOfW_is {R : Int} (x : Wr) (w : Wp) (h : x.fit R = true) (he : wrapOfW x = some w) : x = wrapW w := by
  by_cases hc : x.k = 3 ∧ x.l.map Wr.k = [1, 2]
  · obtain ⟨e, _, hy⟩ := fit_lst h hc.1
    obtain ⟨a, b, el, ha, hb⟩ := two_of hc.2
    unfold wrapOfW at he
    rw [itemsW_is hc.1 hc.2, el] at he
    injection he with he
    rw [e, el, ← he]
    rw [el] at hy
    unfold wrapW
    rw [← fit_num (hy a (by simp)) ha, ← fit_txt (hy b (by simp)) hb]
  · rw [wrapOfW_no hc] at he; cases he
theorem wrapOfW_wrap (w : Wp) : wrapOfW (wrapW w) = some w := rfl
theorem recOfW_is {x : Wr} {r : Rc} (h : x.may = true) (he : recOfW x = some r) : x = recW r := by
  by_cases hc : x.k = 3 ∧ x.l.map Wr.k = [1, 2, 1, 1, 3, 2]
  · unfold Wr.may at h
    obtain ⟨e, _, hy⟩ := fit_lst h hc.1
    obtain ⟨a, b, c, d, u, f, el, ha, hb, hcc, hd, hu, hf⟩ := six_of hc.2
    unfold recOfW at he
    rw [itemsW_is hc.1 hc.2, el] at he
    obtain ⟨l, hl, he⟩ := Option.bind_eq_some_iff.1 he
    injection he with he
    rw [el] at hy
    obtain ⟨eu, _, yu⟩ := fit_lst (hy u (by simp)) hu
    have e1 : u.l = l.map wrapW := allOf_is (P := fun x => x.fit _ = true) wrapOfW_is yu hl
    rw [← he, e, el]
    unfold recW recL
    rw [← fit_num (hy a (by simp)) ha, ← fit_txt (hy b (by simp)) hb, ← fit_num (hy c (by simp)) hcc, ← fit_num (hy d (by simp)) hd, ← fit_txt (hy f (by simp)) hf, eu, e1]
  · rw [recOfW_no hc] at he; cases he
theorem recOfW_rec (r : Rc) : recOfW (recW r) = some r := by
  obtain ⟨a, b, c, d, e, f, q, _, he⟩ := recOfW_of (x := recW r) ⟨rfl, rfl⟩
  rw [he]
  have q1 : recL r = [a, b, c, d, e, f] := q
  unfold recL at q1
  injection q1 with q1 q2
  injection q2 with q2 q3
  injection q3 with q3 q4
  injection q4 with q4 q5
  injection q5 with q5 q6
  injection q6 with q6 _
  rw [← q1, ← q2, ← q3, ← q4, ← q5, ← q6]
  show (allOf wrapOfW (r.wraps.map wrapW)).bind _ = _
  rw [allOf_map wrapOfW_wrap]; rfl
/-- Bytes are a record's just if they are a wire that says it, and it may be. -/
theorem isRec_get {b : List UInt8} {r : Rc} (h : IsRec b r) : get b = some (recW r) ∧ recOfW (recW r) = some r := ⟨rec_get h, recOfW_rec r⟩
theorem isRec_of {b : List UInt8} {x : Wr} {r : Rc} (hg : get b = some x) (hx : recOfW x = some r) (hm : MayR r) : IsRec b r :=
  rec_back hm (by rw [hg, recOfW_is (get_back hg).2.1 hx])
theorem isRec_none {b : List UInt8} (h : get b = none) (r : Rc) : ¬ IsRec b r := fun k => by rw [rec_get k] at h; cases h
theorem isRec_nowire {b : List UInt8} {x : Wr} (hg : get b = some x) (h : recOfW x = none) (r : Rc) : ¬ IsRec b r := fun k => by
  obtain ⟨h1, h2⟩ := isRec_get k
  rw [hg] at h1
  injection h1 with h1
  rw [h1, h2] at h; cases h
theorem isRec_nomay {b : List UInt8} {x : Wr} {r : Rc} (hg : get b = some x) (hx : recOfW x = some r) (hm : ¬ MayR r) (t : Rc) : ¬ IsRec b t := fun k => by
  obtain ⟨h1, h2⟩ := isRec_get k
  rw [hg] at h1
  injection h1 with h1
  rw [h1, h2] at hx
  injection hx with hx
  exact hm (hx ▸ k.1)
/-- A lenient reader that holds its record's bytes against what it read says the same. -/
theorem isRec_bytes {b : ByteArray} {r : Rc} (h : recB r = b) (hb : b ≠ ⟨#[]⟩) : IsRec b.data.toList r := by
  by_cases hm : MayR r
  · rw [recB_yes hm] at h
    exact ⟨hm, by rw [← h]⟩
  · rw [recB_no hm] at h; exact absurd h.symm hb
theorem isRec_recB {b : ByteArray} {r : Rc} (h : IsRec b.data.toList r) : recB r = b := by
  rw [recB_yes h.1]
  apply ByteArray.ext
  apply Array.ext'
  rw [h.2]
end Go.Proofs.Ytaecfcodldbnhaa.Mb
