/- Wires, pure: numbers, texts, lists; what a list of just these kinds has. Records, pure: which may be, their bytes, their heads, what bytes say. Chains of records, pure: who is a member, what a chain is, chains by numbers. Records in memory. -/
import Derived.Test.YtpcjbjpofcdjeaaGreatDoorVCq
import Derived.Test.YtpcjbjpofcdjeaaGreatDoorShRq
section
set_option linter.unusedVariables false
namespace Go.Proofs.YtpcjbjpofcdjeaaGreatDoor.Dt
open Go Vw
def nW (n : Int) : Wr := .mk 1 n ⟨#[]⟩ []
def tW (s : ByteArray) : Wr := .mk 2 0 s []
def lW (l : List Wr) : Wr := .mk 3 0 ⟨#[]⟩ l
theorem nW_len (n : Int) : (nW n).enc.length = 9 := rfl
theorem tW_len (s : ByteArray) : (tW s).enc.length = 5 + s.size := by
 unfold tW; rw [enc_mk, if_neg (by decide), if_pos rfl]; simp [highs_len]; omega
theorem lW_len (l : List Wr) : (lW l).enc.length = 5 + (encs l).length := lst_len l
theorem nW_fit (n R : Int) : (nW n).fit R = true := by unfold nW; rw [fit_mk, if_pos rfl]; rfl
theorem tW_fit {s : ByteArray} (h : s.size ≤ 1048576) (R : Int) : (tW s).fit R = true := by unfold tW; rw [fit_mk, if_neg (by decide), if_pos rfl]; simp [h]
theorem allFit_of {R : Int} : ∀ {l : List Wr}, (∀ x ∈ l, x.fit R = true) → allFit R l = true
 | [], _ => allFit_nil R
 | x :: r, h => by rw [allFit_cons, h x (by simp), allFit_of fun y hy => h y (by simp [hy])]; rfl
theorem lW_fit {l : List Wr} {R : Int} (h0 : 0 < R) (hl : l.length ≤ 65536) (h : ∀ x ∈ l, x.fit (R - 1) = true) : (lW l).fit R = true := by
 unfold lW; rw [fit_mk, if_neg (by decide), if_neg (by decide), if_pos rfl, allFit_of h, show (⟨#[]⟩ : ByteArray).size = 0 from rfl]; simp [h0, hl]
theorem nW_inj {a b : Int} (h : nW a = nW b) : a = b := by unfold nW at h; injection h
theorem tW_inj {a b : ByteArray} (h : tW a = tW b) : a = b := by unfold tW at h; injection h
theorem lW_inj {a b : List Wr} (h : lW a = lW b) : a = b := by unfold lW at h; injection h
end Go.Proofs.YtpcjbjpofcdjeaaGreatDoor.Dt
end
section
set_option linter.unusedVariables false
namespace Go.Proofs.YtpcjbjpofcdjeaaGreatDoor.Mb
open Go Vw Dt
structure Wp where
 d : Int
 box : ByteArray
structure Rc where
 seq : Int
 prev : ByteArray
 kind : Int
 dev : Int
 wraps : List Wp
 tag : ByteArray
def RightW (w : Wp) : Prop := 0 ≤ w.d ∧ w.d < 8 ∧ w.box.size ≤ 200
def RiseW (l : List Wp) : Prop := ∀ i a b, l[i]? = some a → l[i + 1]? = some b → a.d < b.d
def MayH (r : Rc) : Prop := 1 ≤ r.seq ∧ r.seq ≤ 1048576 ∧ (r.prev.size = 32 ∨ r.seq = 1 ∧ r.prev.size = 0) ∧ (r.kind = 1 ∨ r.kind = 2) ∧ 0 ≤ r.dev ∧ r.dev < 8 ∧ (r.tag.size = 16 ∨ r.tag.size = 0)
def MayR (r : Rc) : Prop := MayH r ∧ (∀ w ∈ r.wraps, RightW w) ∧ RiseW r.wraps
theorem rise_at {l : List Wp} (h : RiseW l) (h0 : ∀ w ∈ l, RightW w) : ∀ (i : Nat) (a : Wp), l[i]? = some a → (i : Int) ≤ a.d
 | 0, a, ha => by have := (h0 a (List.mem_of_getElem? ha)).1; omega
 | i + 1, a, ha => by
  obtain ⟨b, hb⟩ : ∃ b, l[i]? = some b := ⟨_, List.getElem?_eq_getElem (by have := (List.getElem?_eq_some_iff.1 ha).1; omega)⟩
  have h1 := rise_at h h0 i b hb
  have h2 := h i b a hb ha
  omega
theorem rise_len {l : List Wp} (h : RiseW l) (h0 : ∀ w ∈ l, RightW w) : l.length ≤ 8 := by
 rcases Nat.lt_or_ge 8 l.length with h1 | h1
 ·obtain ⟨a, ha⟩ : ∃ a, l[8]? = some a := ⟨_, List.getElem?_eq_getElem h1⟩
  have h2 := rise_at h h0 8 a ha
  have h3 := (h0 a (List.mem_of_getElem? ha)).2.1
  omega
 ·exact h1
theorem rise_nil : RiseW [] := fun i a b h _ => by simp at h
theorem rise_snoc {l : List Wp} {w : Wp} : RiseW (l ++ [w]) ↔ RiseW l ∧ (∀ a, l.getLast? = some a → a.d < w.d) := by
 constructor
 ·intro h
  refine ⟨fun i a b ha hb => ?_, fun a ha => ?_⟩
  ·have h1 := (List.getElem?_eq_some_iff.1 ha).1
   have h2 := (List.getElem?_eq_some_iff.1 hb).1
   exact h i a b (by rw [List.getElem?_append_left h1]; exact ha) (by rw [List.getElem?_append_left h2]; exact hb)
  ·rw [List.getLast?_eq_getElem?] at ha
   have h1 := (List.getElem?_eq_some_iff.1 ha).1
   exact h (l.length - 1) a w (by rw [List.getElem?_append_left h1]; exact ha) (by rw [show l.length - 1 + 1 = l.length by omega, List.getElem?_append_right (Nat.le_refl _)]; simp)
 ·rintro ⟨h, hl⟩ i a b ha hb
  have hlt := (List.getElem?_eq_some_iff.1 hb).1
  rw [List.length_append, List.length_singleton] at hlt
  by_cases hi : i + 1 < l.length
  ·rw [List.getElem?_append_left (by omega)] at ha
   rw [List.getElem?_append_left hi] at hb
   exact h i a b ha hb
  ·have e : i + 1 = l.length := by omega
   rw [List.getElem?_append_left (by omega)] at ha
   rw [e, List.getElem?_append_right (Nat.le_refl _)] at hb
   simp only [Nat.sub_self, List.getElem?_cons_zero, Option.some.injEq] at hb
   subst hb
   exact hl a (by rw [List.getLast?_eq_getElem?, show l.length - 1 = i by omega]; exact ha)
def wrapW (w : Wp) : Wr := lW [nW w.d, tW w.box]
def recL (r : Rc) : List Wr := [nW r.seq, tW r.prev, nW r.kind, nW r.dev, lW (r.wraps.map wrapW), tW r.tag]
def recW (r : Rc) : Wr := lW (recL r)
def headW (r : Rc) : Wr := lW [nW r.seq, nW r.kind, nW r.dev, tW r.prev]
theorem wrap_fit {w : Wp} (h : RightW w) {R : Int} (h0 : 0 < R) : (wrapW w).fit R = true :=
 lW_fit h0 (show 2 ≤ 65536 by decide) fun x hx => by
  simp only [List.mem_cons, List.not_mem_nil, or_false] at hx
  rcases hx with rfl | rfl
  ·exact nW_fit _ _
  ·exact tW_fit (by have := h.2.2; omega) _
theorem prev_le {r : Rc} (h : MayH r) : r.prev.size ≤ 32 := by unfold MayH at h; omega
theorem tag_le {r : Rc} (h : MayH r) : r.tag.size ≤ 16 := by unfold MayH at h; omega
theorem rec_may {r : Rc} (h : MayR r) : (recW r).may = true := by
 have hp := prev_le h.1
 have ht := tag_le h.1
 unfold Wr.may recW recL
 refine lW_fit (by decide) (show 6 ≤ 65536 by decide) fun x hx => ?_
 simp only [List.mem_cons, List.not_mem_nil, or_false] at hx
 rcases hx with rfl | rfl | rfl | rfl | rfl | rfl
 ·exact nW_fit _ _
 ·exact tW_fit (by omega) _
 ·exact nW_fit _ _
 ·exact nW_fit _ _
 ·refine lW_fit (by decide) (by rw [List.length_map]; have := rise_len h.2.2 h.2.1; omega) fun x hx => ?_
  obtain ⟨w, hw, rfl⟩ := List.mem_map.1 hx
  exact wrap_fit (h.2.1 w hw) (by decide)
 ·exact tW_fit (by omega) _
theorem head_may {r : Rc} (h : MayH r) : (headW r).may = true := by
 have hp := prev_le h
 unfold Wr.may headW
 refine lW_fit (by decide) (show 4 ≤ 65536 by decide) fun x hx => ?_
 simp only [List.mem_cons, List.not_mem_nil, or_false] at hx
 rcases hx with rfl | rfl | rfl | rfl
 ·exact nW_fit _ _
 ·exact nW_fit _ _
 ·exact nW_fit _ _
 ·exact tW_fit (by omega) _
theorem nin (n : Int) (h : -9223372036854775808 ≤ n ∧ n ≤ 9223372036854775807) : (nW n).in64 = true := num_in n h
theorem tin (s : ByteArray) : (tW s).in64 = true := txt_in s
theorem lin (l : List Wr) (h : ∀ x ∈ l, x.in64 = true) : (lW l).in64 = true := lst_in l h
theorem head_in {r : Rc} (h : MayH r) : (headW r).in64 = true := by
 unfold MayH at h
 unfold headW
 refine lin _ fun x hx => ?_
 simp only [List.mem_cons, List.not_mem_nil, or_false] at hx
 rcases hx with rfl | rfl | rfl | rfl
 ·exact nin _ (by omega)
 ·exact nin _ (by omega)
 ·exact nin _ (by omega)
 ·exact tin _
theorem head_inj {a b : Rc} (h : headW a = headW b) : a.seq = b.seq ∧ a.kind = b.kind ∧ a.dev = b.dev ∧ a.prev = b.prev := by
 have e := lW_inj h
 injection e with e1 e
 injection e with e2 e
 injection e with e3 e
 injection e with e4 _
 exact ⟨nW_inj e1, nW_inj e2, nW_inj e3, tW_inj e4⟩
theorem head_eq {a b : Rc} (h : a.seq = b.seq ∧ a.kind = b.kind ∧ a.dev = b.dev ∧ a.prev = b.prev) : headW a = headW b := by
 unfold headW; rw [h.1, h.2.1, h.2.2.1, h.2.2.2]
open Classical in
noncomputable def recB (r : Rc) : ByteArray := if MayR r then ⟨(recW r).enc.toArray⟩ else ⟨#[]⟩
open Classical in
noncomputable def headB (r : Rc) : ByteArray := if MayR r then ⟨(headW r).enc.toArray⟩ else ⟨#[]⟩
theorem recB_yes {r : Rc} (h : MayR r) : recB r = ⟨(recW r).enc.toArray⟩ := by unfold recB; rw [if_pos h]
theorem recB_no {r : Rc} (h : ¬ MayR r) : recB r = ⟨#[]⟩ := by unfold recB; rw [if_neg h]
theorem headB_yes {r : Rc} (h : MayR r) : headB r = ⟨(headW r).enc.toArray⟩ := by unfold headB; rw [if_pos h]
theorem headB_no {r : Rc} (h : ¬ MayR r) : headB r = ⟨#[]⟩ := by unfold headB; rw [if_neg h]
theorem recB_bytes {r : Rc} (h : MayR r) : recB r = (recW r).bytes := by rw [recB_yes h]; unfold Wr.bytes; rw [if_pos (rec_may h)]
theorem headB_bytes {r : Rc} (h : MayR r) : headB r = (headW r).bytes := by rw [headB_yes h]; unfold Wr.bytes; rw [if_pos (head_may h.1)]
theorem headB_is {a b : Rc} (ha : MayR a) (hb : MayR b) : headB a = headB b ↔ a.seq = b.seq ∧ a.kind = b.kind ∧ a.dev = b.dev ∧ a.prev = b.prev := by
 constructor
 ·intro e
  rw [headB_yes ha, headB_yes hb] at e
  injection e with e
  have e : (headW a).enc = (headW b).enc := by simpa using congrArg Array.toList e
  have h1 := get_enc _ (head_may ha.1) (head_in ha.1)
  rw [e, get_enc _ (head_may hb.1) (head_in hb.1)] at h1
  exact head_inj (Option.some.inj h1).symm
 ·intro h
  rw [headB_yes ha, headB_yes hb, head_eq h]
theorem wraps_size : ∀ l : List Wp, (∀ w ∈ l, RightW w) → (encs (l.map wrapW)).length ≤ 219 * l.length
 | [], _ => by rw [List.map_nil, encs_nil]; exact Nat.le_refl _
 | w :: l, h => by
  have h1 := wraps_size l fun x hx => h x (by simp [hx])
  have h2 := (h w (by simp)).2.2
  rw [List.map_cons, encs_cons, List.length_append, List.length_cons]
  rw [show wrapW w = lW [nW w.d, tW w.box] from rfl, lW_len, encs_cons, encs_cons, encs_nil, List.length_append, List.length_append, nW_len, tW_len, List.length_nil]
  omega
theorem rec_short {r : Rc} (h : MayR r) : (recW r).enc.length ≤ 2000 := by
 have h1 := wraps_size r.wraps h.2.1
 have h2 := rise_len h.2.2 h.2.1
 have h3 := prev_le h.1
 have h4 := tag_le h.1
 unfold recW recL
 rw [lW_len, encs_cons, encs_cons, encs_cons, encs_cons, encs_cons, encs_cons, encs_nil]
 simp only [List.length_append, nW_len, tW_len, lW_len, List.length_nil]
 omega
theorem head_short {r : Rc} (h : MayR r) : (headW r).enc.length ≤ 2000 := by
 have h3 := prev_le h.1
 unfold headW
 rw [lW_len, encs_cons, encs_cons, encs_cons, encs_cons, encs_nil]
 simp only [List.length_append, nW_len, tW_len, List.length_nil]
 omega
theorem recB_size {r : Rc} : (recB r).size ≤ 2000 := by
 by_cases h : MayR r
 ·rw [recB_yes h]; show (recW r).enc.toArray.size ≤ _; rw [List.size_toArray]; exact rec_short h
 ·rw [recB_no h]; exact Nat.zero_le _
end Go.Proofs.YtpcjbjpofcdjeaaGreatDoor.Mb
end
section
set_option linter.unusedVariables false
namespace Go.Proofs.YtpcjbjpofcdjeaaGreatDoor.Mb
open Go Vw Dt
noncomputable def hashB (r : Rc) : ByteArray := Hh.sumB (recB r)
theorem hash_size (r : Rc) : (hashB r).size = 32 := Hh.sumB_size _
noncomputable def lastH (l : List Rc) : ByteArray := match l.getLast? with | some r => hashB r | none => ⟨#[]⟩
theorem lastH_snoc (l : List Rc) (r : Rc) : lastH (l ++ [r]) = hashB r := by unfold lastH; rw [List.getLast?_concat]
theorem lastH_size {l : List Rc} (h : l ≠ []) : (lastH l).size = 32 := by
 unfold lastH
 rw [List.getLast?_eq_some_getLast h]
 exact hash_size _
def goesIn (e d : Int) (b : Bool) (r : Rc) : Bool := if r.seq ≤ e ∧ r.dev = d ∧ (r.kind = 1 ∨ r.kind = 2) then decide (r.kind = 1) else b
def inL (l : List Rc) (e d : Int) : Bool := l.foldl (goesIn e d) false
def inB (l : List Rc) (e d : Int) : Bool := inL l e d && (decide (0 ≤ d) && decide (d < 8))
theorem inL_snoc (l : List Rc) (r : Rc) (e d : Int) : inL (l ++ [r]) e d = goesIn e d (inL l e d) r := by unfold inL; rw [List.foldl_append]; rfl
def StepR (l : List Rc) (r : Rc) : Prop := MayR r ∧ r.seq = l.length + 1 ∧ r.prev = lastH l ∧ (l = [] → r.kind = 1 ∧ r.dev = 0) ∧ (r.kind = 1 → inB l l.length r.dev = false) ∧ (r.kind = 2 → inB l l.length r.dev = true ∧ r.dev ≠ 0)
def GoodR (l : List Rc) : Prop := ∀ i r, l[i]? = some r → StepR (l.take i) r
def ChainR (l : List Rc) : Prop := l.length ≤ 40 ∧ GoodR l
theorem good_nil : GoodR [] := fun i r h => by simp at h
theorem good_snoc {l : List Rc} {r : Rc} : GoodR (l ++ [r]) ↔ GoodR l ∧ StepR l r := by
 constructor
 ·intro h
  refine ⟨fun i a ha => ?_, ?_⟩
  ·have hi := (List.getElem?_eq_some_iff.1 ha).1
   have h1 := h i a (by rw [List.getElem?_append_left hi]; exact ha)
   rwa [List.take_append_of_le_length (Nat.le_of_lt hi)] at h1
  ·have h1 := h l.length r (by rw [List.getElem?_append_right (Nat.le_refl _)]; simp)
   rwa [List.take_append_of_le_length (Nat.le_refl _), List.take_length] at h1
 ·rintro ⟨h, hs⟩ i a ha
  have hlt := (List.getElem?_eq_some_iff.1 ha).1
  rw [List.length_append, List.length_singleton] at hlt
  by_cases hi : i < l.length
  ·rw [List.getElem?_append_left hi] at ha
   rw [List.take_append_of_le_length (Nat.le_of_lt hi)]
   exact h i a ha
  ·have e : i = l.length := by omega
   subst e
   rw [List.getElem?_append_right (Nat.le_refl _)] at ha
   simp only [Nat.sub_self, List.getElem?_cons_zero, Option.some.injEq] at ha
   subst ha
   rw [List.take_append_of_le_length (Nat.le_refl _), List.take_length]
   exact hs
theorem good_take {l : List Rc} (h : GoodR l) (k : Nat) : GoodR (l.take k) := fun i r hr => by
 rw [List.getElem?_take] at hr
 split at hr
 ·rename_i hi
  rw [List.take_take, Nat.min_eq_left (Nat.le_of_lt hi)]
  exact h i r hr
 ·cases hr
theorem good_upto {l : List Rc} {k : Nat} {r : Rc} (hr : l[k]? = some r) (h : GoodR (l.take k)) (hs : StepR (l.take k) r) : GoodR (l.take (k + 1)) := by
 rw [List.take_add_one, hr]; exact good_snoc.2 ⟨h, hs⟩
theorem good_seq {l : List Rc} (h : GoodR l) {i : Nat} {r : Rc} (hr : l[i]? = some r) : r.seq = i + 1 := by
 have h1 := (h i r hr).2.1
 have hi := (List.getElem?_eq_some_iff.1 hr).1
 rw [List.length_take, Nat.min_eq_left (Nat.le_of_lt hi)] at h1
 exact h1
theorem good_may {l : List Rc} (h : GoodR l) {r : Rc} (hr : r ∈ l) : MayR r := by
 obtain ⟨i, hi⟩ := List.getElem?_of_mem hr
 exact (h i r hi).1
def memL (l : List Rc) (d : Int) : Bool := l.foldl (fun b r => if r.dev = d then decide (r.kind = 1) else b) false
theorem memL_snoc (l : List Rc) (r : Rc) (d : Int) : memL (l ++ [r]) d = if r.dev = d then decide (r.kind = 1) else memL l d := by unfold memL; rw [List.foldl_append]; rfl
theorem memL_in : ∀ (l : List Rc) (e d : Int), (∀ r ∈ l, r.seq ≤ e ∧ (r.kind = 1 ∨ r.kind = 2)) → inL l e d = memL l d := by
 intro l e d
 unfold inL memL
 generalize false = b0
 revert b0
 induction l with
 | nil => intro b0 _; rfl
 | cons r l ih =>
  intro b0 h
  rw [List.foldl_cons, List.foldl_cons, ih _ fun x hx => h x (by simp [hx])]
  have h1 := h r (by simp)
  unfold goesIn
  by_cases hd : r.dev = d
  ·rw [if_pos ⟨h1.1, hd, h1.2⟩, if_pos hd]
  ·rw [if_neg (fun k => hd k.2.1), if_neg hd]
theorem good_in {l : List Rc} (h : GoodR l) (d : Int) : inL l l.length d = memL l d := memL_in _ _ _ fun r hr => by
 obtain ⟨i, hi⟩ := List.getElem?_of_mem hr
 have h1 := good_seq h hi
 have h2 := (List.getElem?_eq_some_iff.1 hi).1
 have h3 := (h i r hi).1.1
 unfold MayH at h3
 exact ⟨by omega, h3.2.2.2.1⟩
theorem memL_dev {l : List Rc} (h : ∀ r ∈ l, 0 ≤ r.dev ∧ r.dev < 8) {d : Int} (hd : ¬ (0 ≤ d ∧ d < 8)) : memL l d = false := by
 unfold memL
 generalize hb : false = b0
 rw [← hb]
 clear hb b0
 induction l with
 | nil => rfl
 | cons r l ih =>
  have h1 := h r (by simp)
  rw [List.foldl_cons, if_neg (fun (e : r.dev = d) => hd (by rw [← e]; exact h1))]
  exact ih fun x hx => h x (by simp [hx])
theorem good_mem {l : List Rc} (h : GoodR l) (d : Int) : inB l l.length d = memL l d := by
 unfold inB
 rw [good_in h]
 by_cases hd : 0 ≤ d ∧ d < 8
 ·rw [decide_eq_true hd.1, decide_eq_true hd.2, Bool.and_self, Bool.and_true]
 ·rw [memL_dev (fun r hr => by have h1 := (good_may h hr).1; unfold MayH at h1; omega) hd]; rfl
def firstR : Rc := ⟨1, ⟨#[]⟩, 1, 0, [], ⟨#[]⟩⟩
noncomputable def bare (l : List Rc) (kind dev : Int) (tag : ByteArray) : Rc := ⟨l.length + 1, lastH l, kind, dev, [], tag⟩
theorem bare_may {l : List Rc} {kind dev : Int} {tag : ByteArray} (hl : l.length < 1000) (hk : kind = 1 ∨ kind = 2) (hd : 0 ≤ dev ∧ dev < 8) (ht : tag.size = 16 ∨ tag.size = 0) : MayR (bare l kind dev tag) := by
 refine ⟨⟨?_, ?_, ?_, hk, hd.1, hd.2, ht⟩, fun w hw => (by cases hw), rise_nil⟩
 ·show (1 : Int) ≤ (l.length : Int) + 1; omega
 ·show (l.length : Int) + 1 ≤ 1048576; omega
 ·by_cases h : l = []
  ·subst h; exact .inr ⟨rfl, rfl⟩
  ·exact .inl (lastH_size h)
theorem bare_step {l : List Rc} {kind dev : Int} {tag : ByteArray} (hg : GoodR l) (h0 : l ≠ []) (hl : l.length < 1000) (hd : 0 < dev ∧ dev < 8) (ht : tag.size = 16 ∨ tag.size = 0) (hk : kind = if memL l dev then 2 else 1) : GoodR (l ++ [bare l kind dev tag]) := by
 have hm := good_mem hg dev
 have hkk : kind = 1 ∨ kind = 2 := by rw [hk]; split <;> simp
 refine good_snoc.2 ⟨hg, bare_may hl hkk ⟨by omega, hd.2⟩ ht, rfl, rfl, fun e => absurd e h0, fun h1 => ?_, fun h2 => ?_⟩
 ·show inB l l.length dev = false
  rw [hm]
  have h1 : kind = 1 := h1
  cases hb : memL l dev
  ·rfl
  ·rw [hk, hb] at h1; simp at h1
 ·refine ⟨?_, by show dev ≠ 0; omega⟩
  show inB l l.length dev = true
  rw [hm]
  have h2 : kind = 2 := h2
  cases hb : memL l dev
  ·rw [hk, hb] at h2; simp at h2
  ·rfl
theorem first_step : StepR [] firstR := by
 refine ⟨⟨⟨by decide, by decide, .inr ⟨rfl, rfl⟩, .inl rfl, by decide, by decide, .inr rfl⟩, fun w hw => (by cases hw), rise_nil⟩, rfl, rfl, fun _ => ⟨rfl, rfl⟩, fun _ => rfl, fun h => absurd h (by decide)⟩
theorem first_good : GoodR [firstR] := good_snoc (l := []).2 ⟨good_nil, first_step⟩
theorem first_is : bare [] 1 0 ⟨#[]⟩ = firstR := rfl
def tagC : ByteArray := ⟨#[48, 49, 50, 51, 52, 53, 54, 55, 56, 57, 97, 98, 99, 100, 101, 102]⟩
noncomputable def nextC (l : List Rc) (n : Nat) : Rc := bare l (if inB l l.length (1 + ((n % 7 : Nat) : Int)) then 2 else 1) (1 + ((n % 7 : Nat) : Int)) (if 127 < n then tagC else ⟨#[]⟩)
noncomputable def chainC (ns : List Nat) : List Rc := (ns.take 29).foldl (fun l n => l ++ [nextC l n]) [firstR]
theorem chain_len (l0 : List Rc) : ∀ ns : List Nat, (ns.foldl (fun l n => l ++ [nextC l n]) l0).length = l0.length + ns.length := by
 intro ns
 induction ns generalizing l0 with
 | nil => rfl
 | cons n ns ih => rw [List.foldl_cons, ih]; simp; omega
theorem chain_good : ∀ (ns : List Nat) (l0 : List Rc), GoodR l0 → l0 ≠ [] → l0.length + ns.length < 1000 → GoodR (ns.foldl (fun l n => l ++ [nextC l n]) l0)
 | [], _, h, _, _ => h
 | n :: ns, l0, h, h0, hl => by
  rw [List.length_cons] at hl
  rw [List.foldl_cons]
  refine chain_good ns _ ?_ (by simp) (by rw [List.length_append, List.length_singleton]; omega)
  have hm : n % 7 < 7 := Nat.mod_lt _ (by decide)
  exact bare_step h h0 (by omega) ⟨by omega, by omega⟩ (by split <;> simp [tagC, ByteArray.size]) (by rw [good_mem h])
theorem chainC_good (ns : List Nat) : GoodR (chainC ns) := chain_good _ _ first_good (by simp) (by rw [List.length_take]; simp; omega)
theorem chainC_len (ns : List Nat) : (chainC ns).length = 1 + min 29 ns.length := by unfold chainC; rw [chain_len, List.length_take]; rfl
theorem chainC_chain (ns : List Nat) : ChainR (chainC ns) := ⟨by rw [chainC_len]; omega, chainC_good ns⟩
end Go.Proofs.YtpcjbjpofcdjeaaGreatDoor.Mb
end
section
set_option linter.unusedVariables false
namespace Go.Proofs.YtpcjbjpofcdjeaaGreatDoor.Mb
open Go Go.RowKit Mm
section
variable {w w' : World}
def WAt (w : World) (g o : Nat) (x : Wp) : Prop := w.cell? ⟨g, o, none⟩ = some (.int .i64 x.d) ∧ w.cell? ⟨g, o + 1, none⟩ = some (.string x.box)
def WL (w : World) (A : Option Addr) (n : Nat) (l : List Wp) : Prop :=
 l.length = n ∧ (0 < n → ∃ g o, A = some ⟨g, o, none⟩ ∧ g < w.heap.size ∧ ∀ i x, l[i]? = some x → WAt w g (o + i * 2) x)
theorem WAt.kept {g o : Nat} {x : Wp} {row : Option Nat} (h : WAt w g o x) (hg : g < w.heap.size) (k : w.grownBy w' row) (hr : some g ≠ row) : WAt w' g o x := by
 have hb := k.block g hg hr
 exact ⟨(World.cell?_of_block (a := ⟨g, o, none⟩) hb).trans h.1, (World.cell?_of_block (a := ⟨g, o + 1, none⟩) hb).trans h.2⟩
theorem WL.keep {A : Option Addr} {n : Nat} {l : List Wp} (h : WL w A n l) (k : Gn w w') : WL w' A n l := by
 refine ⟨h.1, fun hn => ?_⟩
 obtain ⟨g, o, e, hl, hc⟩ := h.2 hn
 exact ⟨g, o, e, Nat.lt_of_lt_of_le hl k.size, fun i x hx => (hc i x hx).kept hl k (by simp)⟩
theorem WL.none (w : World) (A : Option Addr) : WL w A 0 [] := ⟨rfl, fun h => absurd h (by omega)⟩
theorem wl_at {A : Option Addr} {n : Nat} {l : List Wp} (h : WL w A n l) {i : Nat} {x : Wp} (hx : l[i]? = some x) : ∃ g o, A = some ⟨g, o, Option.none⟩ ∧ g < w.heap.size ∧ WAt w g (o + i * 2) x := by
 have hi := (List.getElem?_eq_some_iff.1 hx).1
 obtain ⟨g, o, e, hg, hc⟩ := h.2 (by have := h.1; omega)
 exact ⟨g, o, e, hg, hc i x hx⟩
def RcAt (w : World) (g o : Nat) (r : Rc) : Prop := ∃ (A : Option Addr) (c : Nat), w.cell? ⟨g, o, none⟩ = some (.int .i64 r.seq) ∧ w.cell? ⟨g, o + 1, none⟩ = some (.string r.prev) ∧ w.cell? ⟨g, o + 2, none⟩ = some (.int .i64 r.kind) ∧ w.cell? ⟨g, o + 3, none⟩ = some (.int .i64 r.dev) ∧ w.cell? ⟨g, o + 4, none⟩ = some (.slice A r.wraps.length c) ∧ w.cell? ⟨g, o + 5, none⟩ = some (.string r.tag) ∧ WL w A r.wraps.length r.wraps ∧ r.wraps.length ≤ c
theorem RcAt.keep {g o : Nat} {r : Rc} (h : RcAt w g o r) (hg : g < w.heap.size) (k : Gn w w') : RcAt w' g o r := by
 have hb := k.block g hg (by simp)
 obtain ⟨A, c, h0, h1, h2, h3, h4, h5, h6, h7⟩ := h
 exact ⟨A, c, (World.cell?_of_block (a := ⟨g, o, none⟩) hb).trans h0, (World.cell?_of_block (a := ⟨g, o + 1, none⟩) hb).trans h1, (World.cell?_of_block (a := ⟨g, o + 2, none⟩) hb).trans h2, (World.cell?_of_block (a := ⟨g, o + 3, none⟩) hb).trans h3, (World.cell?_of_block (a := ⟨g, o + 4, none⟩) hb).trans h4, (World.cell?_of_block (a := ⟨g, o + 5, none⟩) hb).trans h5, h6.keep k, h7⟩
def LogL (w : World) (A : Option Addr) (n : Nat) (l : List Rc) : Prop :=
 l.length = n ∧ (0 < n → ∃ g o, A = some ⟨g, o, none⟩ ∧ g < w.heap.size ∧ ∀ i r, l[i]? = some r → RcAt w g (o + i * 6) r)
theorem LogL.keep {A : Option Addr} {n : Nat} {l : List Rc} (h : LogL w A n l) (k : Gn w w') : LogL w' A n l := by
 refine ⟨h.1, fun hn => ?_⟩
 obtain ⟨g, o, e, hl, hc⟩ := h.2 hn
 exact ⟨g, o, e, Nat.lt_of_lt_of_le hl k.size, fun i x hx => (hc i x hx).keep hl k⟩
theorem LogL.none (w : World) (A : Option Addr) : LogL w A 0 [] := ⟨rfl, fun h => absurd h (by omega)⟩
theorem log_at {A : Option Addr} {n : Nat} {l : List Rc} (h : LogL w A n l) {i : Nat} {r : Rc} (hr : l[i]? = some r) : ∃ g o, A = some ⟨g, o, Option.none⟩ ∧ g < w.heap.size ∧ RcAt w g (o + i * 6) r := by
 have hi := (List.getElem?_eq_some_iff.1 hr).1
 obtain ⟨g, o, e, hg, hc⟩ := h.2 (by have := h.1; omega)
 exact ⟨g, o, e, hg, hc i r hr⟩
theorem log_take {A : Option Addr} {n : Nat} {l : List Rc} (h : LogL w A n l) {k : Nat} (hk : k ≤ n) : LogL w A k (l.take k) := by
 refine ⟨by rw [List.length_take, h.1]; omega, fun h0 => ?_⟩
 obtain ⟨g, o, e, hg, hc⟩ := h.2 (by omega)
 refine ⟨g, o, e, hg, fun i r hr => hc i r ?_⟩
 rw [List.getElem?_take] at hr
 split at hr
 ·exact hr
 ·cases hr
def recV (r : Rc) (A : Option Addr) (c : Nat) : Value := .agg #[.int .i64 r.seq, .string r.prev, .int .i64 r.kind, .int .i64 r.dev, .slice A r.wraps.length c, .string r.tag]
def RecV (w : World) (v : Value) (r : Rc) : Prop := ∃ A c, v = recV r A c ∧ WL w A r.wraps.length r.wraps ∧ r.wraps.length ≤ c
theorem RecV.keep {v : Value} {r : Rc} (h : RecV w v r) (k : Gn w w') : RecV w' v r := by
 obtain ⟨A, c, e, h1, h2⟩ := h
 exact ⟨A, c, e, h1.keep k, h2⟩
def wv1 (x : Wp) : List Value := [.int .i64 x.d, .string x.box]
def wv (l : List Wp) : List Value := l.flatMap wv1
theorem wv_append (a b : List Wp) : wv (a ++ b) = wv a ++ wv b := by unfold wv; rw [List.flatMap_append]
theorem wv_cons (x : Wp) (l : List Wp) : wv (x :: l) = wv1 x ++ wv l := rfl
theorem wv_len (l : List Wp) : (wv l).length = l.length * 2 := by
 induction l with
 | nil => rfl
 | cons r l ih => rw [wv_cons, List.length_append, ih, List.length_cons]; simp [wv1]; omega
theorem wv_one (l : List Wp) : ∀ u ∈ wv l, u.oneCell' = true := by
 intro u hu
 unfold wv at hu
 obtain ⟨x, _, hx⟩ := List.mem_flatMap.1 hu
 unfold wv1 at hx
 simp only [List.mem_cons, List.not_mem_nil, or_false] at hx
 rcases hx with rfl | rfl <;> rfl
theorem wv1_one (x : Wp) : ∀ u ∈ wv1 x, u.oneCell' = true := by
 have h := wv_one [x]
 rwa [show wv [x] = wv1 x from List.append_nil _] at h
theorem wv_at : ∀ (l : List Wp) (i : Nat) (x : Wp), l[i]? = some x → ∀ j, j < 2 → (wv l)[i * 2 + j]? = (wv1 x)[j]?
 | [], i, x, h => by simp at h
 | r :: l, 0, x, h => fun j hj => by
  obtain rfl : r = x := by simpa using h
  rw [wv_cons, List.getElem?_append_left (by simp [wv1]; omega), Nat.zero_mul, Nat.zero_add]
 | r :: l, i + 1, x, h => fun j hj => by
  have ih := wv_at l i x (by simpa using h) j hj
  rw [wv_cons, List.getElem?_append_right (by simp [wv1]; omega)]
  rw [show (i + 1) * 2 + j - (wv1 r).length = i * 2 + j by simp [wv1]; omega, ih]
theorem own_wl {B n : Nat} {t : TypeId} {v : Value} {l : List Wp} (h : w.ownsRow B t 2 v n (wv l)) (hn : l.length = n) : ∃ A c, v = .slice A n c ∧ WL w A n l ∧ n ≤ c := by
 have hcells := fun (g : Nat) (hg : v.ownBlock = some g) => World.ownsRow.cells h hg
 rcases h.2 with ⟨rfl, h0⟩ | ⟨g, cap, cur, rfl, hB, hg, hle, _⟩
 ·exact ⟨Option.none, 0, by rw [h0], ⟨hn, fun hp => absurd hp (by omega)⟩, by omega⟩
 ·refine ⟨_, cap, rfl, ⟨hn, fun _ => ⟨g, 0, rfl, (Array.getElem?_eq_some_iff.1 hg).1, fun i x hx => ?_⟩⟩, hle⟩
  have hat : ∀ j u, (wv l)[j]? = some u → w.cell? ⟨g, 0 + j, Option.none⟩ = some u := fun j u hu => by
   have := hcells g rfl j u hu
   have hadd : (⟨g, 0, Option.none⟩ : Addr).add j = ⟨g, 0 + j, Option.none⟩ := by unfold Addr.add; split <;> simp_all
   rwa [hadd] at this
  have r := wv_at l i x hx
  exact ⟨hat _ _ (r 0 (by decide)), hat _ _ (r 1 (by decide))⟩
def bv1 (r : Rc) : List Value := [.int .i64 r.seq, .string r.prev, .int .i64 r.kind, .int .i64 r.dev, .slice Option.none 0 0, .string r.tag]
def bv (l : List Rc) : List Value := l.flatMap bv1
end
end Go.Proofs.YtpcjbjpofcdjeaaGreatDoor.Mb
end
