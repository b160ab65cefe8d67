/- Logs with keys by numbers, pure; what their records open to, who has which keys. -/
import Derived.Test.YtpcjbjpofcdjeaaGreatDoorWcP
set_option linter.unusedVariables false
namespace Go.Proofs.YtpcjbjpofcdjeaaGreatDoor.Wc
open Go Vw Mb Ro
def kindK (l : List Rc) (d : Int) : Int := if inB l l.length d = true then 2 else 1
def devK (n : Nat) : Int := 1 + ((n % 4 : Nat) : Int)
theorem devK_range (n : Nat) : 1 ≤ devK n ∧ devK n ≤ 4 := by
 have := Nat.mod_lt n (show 0 < 4 by decide)
 unfold devK; omega
noncomputable def nextK (s m : ByteArray) (l : List Rc) (n : Nat) : Rc := nextR s m l (kindK l (devK n)) (devK n)
noncomputable def firstK (s m : ByteArray) : Rc := nextR s m [] 1 0
noncomputable def prefK (s m : ByteArray) (ns : List Nat) (k : Nat) : List Rc := (ns.take k).foldl (fun l n => l ++ [nextK s m l n]) [firstK s m]
noncomputable def logK (s m : ByteArray) (ns : List Nat) : List Rc := prefK s m ns 7
theorem first_deed : deedE [] 1 0 = 0 := by
 refine deed_ok (fun h => ?_) (fun h => ?_) (fun h => absurd h.1 (by decide)) (by decide)
 ·rcases h with h | h | h | h | h
  ·exact h (.inl rfl)
  ·exact h (by decide)
  ·exact h ⟨by decide, good_nil⟩
  ·exact h.2 ⟨rfl, rfl⟩
  ·exact absurd h.1 (by decide)
 ·have := h.2; rw [in_nil] at this; cases this
theorem kindK_or (l : List Rc) (d : Int) : kindK l d = 1 ∨ kindK l d = 2 := by unfold kindK; split <;> simp
theorem next_deed {l : List Rc} (hc : ChainR l) (h0 : l.length ≠ 0) (h1 : l.length < 40) {d : Int} (hd : 1 ≤ d ∧ d ≤ 4) : deedE l (kindK l d) d = 0 := by
 have hk := kindK_or l d
 refine deed_ok (fun h => ?_) (fun h => ?_) (fun h => ?_) (by omega)
 ·rcases h with h | h | h | h | h
  ·exact h hk
  ·exact h (by omega)
  ·exact h hc
  ·exact h0 h.1
  ·omega
 ·have h2 := h.1; unfold kindK at h2; rw [if_pos h.2] at h2; cases h2
 ·have h2 := h.1; unfold kindK at h2; rw [if_neg (by rw [h.2]; decide)] at h2; cases h2
theorem first_is (s m : ByteArray) : ChainR [firstK s m] := next_chain (l := []) s m first_deed
theorem pref_len (s m : ByteArray) (ns : List Nat) (k : Nat) : (prefK s m ns k).length = 1 + min k ns.length := by
 have gen : ∀ (ns : List Nat) (l0 : List Rc), (ns.foldl (fun l n => l ++ [nextK s m l n]) l0).length = l0.length + ns.length := by
  intro ns
  induction ns with
  | nil => intro l0; rfl
  | cons n ns ih => intro l0; rw [List.foldl_cons, ih, List.length_append, List.length_cons]; simp; omega
 unfold prefK
 rw [gen, List.length_take]; rfl
theorem pref_next {s m : ByteArray} {ns : List Nat} {k n : Nat} (hn : ns[k]? = some n) : prefK s m ns (k + 1) = prefK s m ns k ++ [nextK s m (prefK s m ns k) n] := by
 unfold prefK
 rw [List.take_add_one, hn, List.foldl_append]; rfl
theorem pref_all {s m : ByteArray} {ns : List Nat} {k : Nat} (h : k = 7 ∨ k ≤ 7 ∧ ns.length ≤ k) : prefK s m ns k = logK s m ns := by
 rcases h with rfl | h
 ·rfl
 ·unfold logK prefK
  rw [List.take_of_length_le h.2, List.take_of_length_le (by omega)]
theorem pref_chain (s m : ByteArray) (ns : List Nat) : ∀ k, k ≤ 7 → ChainR (prefK s m ns k)
 | 0, _ => first_is s m
 | k + 1, hk => by
  have ih := pref_chain s m ns k (by omega)
  cases hn : ns[k]? with
  | none =>
   have e : prefK s m ns (k + 1) = prefK s m ns k := by
    unfold prefK
    rw [List.take_add_one, hn]; simp
   rw [e]; exact ih
  | some n =>
   rw [pref_next hn]
   have hl := pref_len s m ns k
   exact next_chain s m (next_deed ih (by omega) (by omega) (devK_range n))
theorem log_chain (s m : ByteArray) (ns : List Nat) : ChainR (logK s m ns) := pref_chain s m ns 7 (by decide)
theorem log_len (s m : ByteArray) (ns : List Nat) : (logK s m ns).length = 1 + min 7 ns.length := pref_len s m ns 7
def Nexts (s m : ByteArray) (l : List Rc) : Prop := ∀ i r, l[i]? = some r → ∃ kind dev, deedE (l.take i) kind dev = 0 ∧ r = nextR s m (l.take i) kind dev ∧ 0 ≤ dev ∧ dev ≤ 4
theorem nexts_snoc {s m : ByteArray} {l : List Rc} {kind dev : Int} (h : Nexts s m l) (hd : deedE l kind dev = 0) (h4 : 0 ≤ dev ∧ dev ≤ 4) : Nexts s m (l ++ [nextR s m l kind dev]) := fun i r hr => by
 have hlt := (List.getElem?_eq_some_iff.1 hr).1
 rw [List.length_append, List.length_singleton] at hlt
 by_cases hi : i < l.length
 ·rw [List.getElem?_append_left hi] at hr
  rw [List.take_append_of_le_length (Nat.le_of_lt hi)]
  exact h i r hr
 ·have e : i = l.length := by omega
  subst e
  rw [List.getElem?_append_right (Nat.le_refl _)] at hr
  simp only [Nat.sub_self, List.getElem?_cons_zero, Option.some.injEq] at hr
  subst hr
  rw [List.take_append_of_le_length (Nat.le_refl _), List.take_length]
  exact ⟨kind, dev, hd, rfl, h4.1, h4.2⟩
theorem pref_nexts (s m : ByteArray) (ns : List Nat) : ∀ k, k ≤ 7 → Nexts s m (prefK s m ns k)
 | 0, _ => nexts_snoc (l := []) (fun i r h => by simp at h) first_deed (by decide)
 | k + 1, hk => by
  have ih := pref_nexts s m ns k (by omega)
  have hc := pref_chain s m ns k (by omega)
  cases hn : ns[k]? with
  | none =>
   have e : prefK s m ns (k + 1) = prefK s m ns k := by
    unfold prefK
    rw [List.take_add_one, hn]; simp
   rw [e]; exact ih
  | some n =>
   rw [pref_next hn]
   have hl := pref_len s m ns k
   have hd := devK_range n
   exact nexts_snoc ih (next_deed hc (by omega) (by omega) hd) (by omega)
theorem log_nexts (s m : ByteArray) (ns : List Nat) : Nexts s m (logK s m ns) := pref_nexts s m ns 7 (by decide)
theorem log_opens {s m : ByteArray} {l : List Rc} (h : Nexts s m l) (hg : GoodR l) {i : Nat} {r : Rc} (hr : l[i]? = some r) (d : Int) : unwrapR (Ky.ownB m d) r d = if inB l ((i + 1 : Nat) : Int) d = true then some (Ky.epochB s ((i + 1 : Nat) : Int)) else none := by
 obtain ⟨kind, dev, hd, he, _⟩ := h i r hr
 have hi := (List.getElem?_eq_some_iff.1 hr).1
 have hl : (l.take i).length = i := by rw [List.length_take]; omega
 have h1 := next_opens s m hd d
 rw [← he, hl] at h1
 have e1 : l.take (i + 1) = l.take i ++ [r] := by rw [List.take_add_one, hr]; rfl
 rw [h1, ← e1, show ((i : Nat) : Int) + 1 = ((i + 1 : Nat) : Int) by omega, ← in_take hg]
theorem log_tag {s m : ByteArray} {l : List Rc} (h : Nexts s m l) {i : Nat} {r : Rc} (hr : l[i]? = some r) (h0 : i ≠ 0) : tagR (Ky.epochB s (i : Int)) r = r.tag := by
 obtain ⟨kind, dev, hd, he, _⟩ := h i r hr
 have hi := (List.getElem?_eq_some_iff.1 hr).1
 have hl : (l.take i).length = i := by rw [List.length_take]; omega
 have h1 := next_tag s m hd (by omega) (.inl rfl)
 rw [← he, hl] at h1
 exact h1
noncomputable def keysK (s : ByteArray) (l : List Rc) (d : Int) : Nat → List Mb.Wp
 | 0 => []
 | i + 1 => keysK s l d i ++ if inB l ((i + 1 : Nat) : Int) d = true then [⟨((i + 1 : Nat) : Int), Ky.epochB s ((i + 1 : Nat) : Int)⟩] else []
theorem keys_len (s : ByteArray) (l : List Rc) (d : Int) : ∀ i, (keysK s l d i).length ≤ i
 | 0 => Nat.le_refl _
 | i + 1 => by
  have ih := keys_len s l d i
  rw [keysK, List.length_append]
  split <;> simp <;> omega
theorem keys_mem (s : ByteArray) (l : List Rc) (d : Int) (x : Mb.Wp) : ∀ i, x ∈ keysK s l d i ↔ ∃ e : Nat, 1 ≤ e ∧ e ≤ i ∧ inB l (e : Int) d = true ∧ x = ⟨(e : Int), Ky.epochB s (e : Int)⟩
 | 0 => ⟨fun h => (by cases h), fun ⟨e, h1, h2, _⟩ => absurd h1 (by omega)⟩
 | i + 1 => by
  have ih := keys_mem s l d x i
  rw [keysK, List.mem_append]
  constructor
  ·rintro (h | h)
   ·obtain ⟨e, h1, h2, h3⟩ := ih.1 h
    exact ⟨e, h1, by omega, h3⟩
   ·split at h
    ·rename_i hq
     exact ⟨i + 1, by omega, Nat.le_refl _, hq, List.mem_singleton.1 h⟩
    ·cases h
  ·rintro ⟨e, h1, h2, h3, h4⟩
   by_cases he : e = i + 1
   ·subst he
    exact .inr (by rw [if_pos h3, h4]; exact List.mem_singleton.2 rfl)
   ·exact .inl (ih.2 ⟨e, h1, by omega, h3, h4⟩)
theorem keys_rise (s : ByteArray) (l : List Rc) (d : Int) : ∀ i, RiseW (keysK s l d i)
 | 0 => rise_nil
 | i + 1 => by
  have ih := keys_rise s l d i
  rw [keysK]
  split
  ·refine rise_snoc.2 ⟨ih, fun a ha => ?_⟩
   obtain ⟨e, h1, h2, _, h4⟩ := (keys_mem s l d a i).1 (List.mem_of_getLast? ha)
   rw [h4]
   show (e : Int) < ((i + 1 : Nat) : Int)
   omega
  ·rw [List.append_nil]; exact ih
theorem keys_of (s : ByteArray) (l : List Rc) (d : Int) (i : Nat) {e : Nat} (h1 : 1 ≤ e) (h2 : e ≤ i) : keyOf (keysK s l d i) (e : Int) = if inB l (e : Int) d = true then some (Ky.epochB s (e : Int)) else none := by
 split
 ·rename_i hq
  have hm : (⟨(e : Int), Ky.epochB s (e : Int)⟩ : Mb.Wp) ∈ keysK s l d i := (keys_mem s l d _ i).2 ⟨e, h1, h2, hq, rfl⟩
  exact keyOf_of (k := ⟨(e : Int), Ky.epochB s (e : Int)⟩) (keys_rise s l d i) hm rfl
 ·rename_i hq
  cases hk : keyOf (keysK s l d i) (e : Int) with
  | none => rfl
  | some x =>
   obtain ⟨k, hm, hd, _⟩ := keyOf_mem hk
   obtain ⟨e', h3, h4, h5, rfl⟩ := (keys_mem s l d k i).1 hm
   have : e' = e := by have hd : ((e' : Nat) : Int) = (e : Int) := hd; omega
   subst this
   exact absurd h5 hq
theorem keys_zero (s : ByteArray) (l : List Rc) (d : Int) (i : Nat) : keyOf (keysK s l d i) 0 = none := by
 cases hk : keyOf (keysK s l d i) 0 with
 | none => rfl
 | some x =>
  obtain ⟨k, hm, hd, _⟩ := keyOf_mem hk
  obtain ⟨e', h3, h4, h5, rfl⟩ := (keys_mem s l d k i).1 hm
  have hd : ((e' : Nat) : Int) = 0 := hd
  omega
theorem take_next {s m : ByteArray} {l : List Rc} (h : Nexts s m l) (hc : ChainR l) {i : Nat} {r : Rc} (hr : l[i]? = some r) (d : Int) :
  takeE (l.take i) (keysK s l d i) (Ky.ownB m d) d r = 0 ∧ LogKeys (l.take i) (keysK s l d i) (Ky.ownB m d) d r 0 (l.take (i + 1)) (keysK s l d (i + 1)) := by
 have hi := (List.getElem?_eq_some_iff.1 hr).1
 have hl : (l.take i).length = i := by rw [List.length_take]; omega
 have e1 : l.take (i + 1) = l.take i ++ [r] := by rw [List.take_add_one, hr]; rfl
 have hin : inB (l.take i ++ [r]) ((i : Int) + 1) d = inB l ((i + 1 : Nat) : Int) d := by
  rw [← e1, show ((i : Nat) : Int) + 1 = ((i + 1 : Nat) : Int) by omega, ← in_take hc.2]
 have ho := log_opens h hc.2 hr d
 have hc1 : ChainR (l.take i) := ⟨by rw [hl]; have := hc.1; omega, good_take hc.2 i⟩
 have hc2 : ChainR (l.take i ++ [r]) := by rw [← e1]; exact ⟨by rw [List.length_take]; have := hc.1; omega, good_take hc.2 (i + 1)⟩
 refine ⟨take_ok ⟨hc1, keys_rise s l d i⟩ hc2 ?_, .inr ⟨rfl, e1, ?_⟩⟩
 ·rintro (⟨k, hk, ht⟩ | ⟨h1, h2⟩)
  ·rw [hl] at hk
   by_cases h0 : i = 0
   ·subst h0
    rw [show ((0 : Nat) : Int) = 0 from rfl, keys_zero] at hk; cases hk
   ·rw [keys_of s l d i (by omega) (Nat.le_refl _)] at hk
    split at hk
    ·have e9 := Option.some.inj hk
     subst e9
     exact ht (log_tag h hr h0).symm
    ·cases hk
  ·rw [hl, hin] at h1
   rw [ho, if_pos h1] at h2; cases h2
 ·rw [hl, hin]
  cases hq : inB l ((i + 1 : Nat) : Int) d with
  | false =>
   refine .inl ⟨rfl, ?_⟩
   rw [keysK, hq]; simp
  | true =>
   refine .inr ⟨rfl, Ky.epochB s ((i + 1 : Nat) : Int), by rw [ho, if_pos hq], ?_⟩
   rw [keysK, if_pos hq]; rfl
end Go.Proofs.YtpcjbjpofcdjeaaGreatDoor.Wc
