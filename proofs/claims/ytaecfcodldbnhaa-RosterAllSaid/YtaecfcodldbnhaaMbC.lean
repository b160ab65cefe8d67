/- Chains of records, pure: who is a member, what a chain is, chains by numbers. -/
import Derived.Test.YtaecfcodldbnhaaMbP
import Derived.Test.YtaecfcodldbnhaaShR
set_option linter.unusedVariables false
namespace Go.Proofs.Ytaecfcodldbnhaa.Mb
open Go Go.Proofs.Ytaecfcodldbnhaa.Vw Go.Proofs.Ytaecfcodldbnhaa.Dt

noncomputable def hashB (r : Rc) : ByteArray := Hh.sumB (recB r)
theorem hash_size (r : Rc) : (hashB r).size = 32 := Hh.sumB_size _
noncomputable def lastH (l : List Rc) : ByteArray := match l.getLast? with | some r => hashB r | none => ⟨#[]⟩
theorem lastH_nil : lastH [] = ⟨#[]⟩ := rfl
theorem lastH_snoc (l : List Rc) (r : Rc) : lastH (l ++ [r]) = hashB r := by unfold lastH; rw [List.getLast?_concat]
theorem lastH_size {l : List Rc} (h : l ≠ []) : (lastH l).size = 32 := by
  unfold lastH
  rw [List.getLast?_eq_some_getLast h]
  exact hash_size _
/-- What is known of a device behind one record more. -/
def goesIn (e d : Int) (b : Bool) (r : Rc) : Bool := if r.seq ≤ e ∧ r.dev = d ∧ (r.kind = 1 ∨ r.kind = 2) then decide (r.kind = 1) else b
def inL (l : List Rc) (e d : Int) : Bool := l.foldl (goesIn e d) false
def inB (l : List Rc) (e d : Int) : Bool := inL l e d && (decide (0 ≤ d) && decide (d < 8))
theorem inL_snoc (l : List Rc) (r : Rc) (e d : Int) : inL (l ++ [r]) e d = goesIn e d (inL l e d) r := by unfold inL; rw [List.foldl_append]; rfl
/-- A record that goes on with a chain. -/
def StepR (l : List Rc) (r : Rc) : Prop := MayR r ∧ r.seq = l.length + 1 ∧ r.prev = lastH l ∧ (l = [] → r.kind = 1 ∧ r.dev = 0) ∧ (r.kind = 1 → inB l l.length r.dev = false) ∧ (r.kind = 2 → inB l l.length r.dev = true ∧ r.dev ≠ 0)
def GoodR (l : List Rc) : Prop := ∀ i r, l[i]? = some r → StepR (l.take i) r
def ChainR (l : List Rc) : Prop := l.length ≤ 40 ∧ GoodR l
theorem good_nil : GoodR [] := fun i r h => by simp at h
theorem good_snoc {l : List Rc} {r : Rc} : GoodR (l ++ [r]) ↔ GoodR l ∧ StepR l r := by
  constructor
  · intro h
    refine ⟨fun i a ha => ?_, ?_⟩
    · have hi := (List.getElem?_eq_some_iff.1 ha).1
      have h1 := h i a (by rw [List.getElem?_append_left hi]; exact ha)
      rwa [List.take_append_of_le_length (Nat.le_of_lt hi)] at h1
    · have h1 := h l.length r (by rw [List.getElem?_append_right (Nat.le_refl _)]; simp)
      rwa [List.take_append_of_le_length (Nat.le_refl _), List.take_length] at h1
  · rintro ⟨h, hs⟩ i a ha
    have hlt := (List.getElem?_eq_some_iff.1 ha).1
    rw [List.length_append, List.length_singleton] at hlt
    by_cases hi : i < l.length
    · rw [List.getElem?_append_left hi] at ha
      rw [List.take_append_of_le_length (Nat.le_of_lt hi)]
      exact h i a ha
    · have e : i = l.length := by omega
      subst e
      rw [List.getElem?_append_right (Nat.le_refl _)] at ha
      simp only [Nat.sub_self, List.getElem?_cons_zero, Option.some.injEq] at ha
      subst ha
      rw [List.take_append_of_le_length (Nat.le_refl _), List.take_length]
      exact hs
theorem good_take {l : List Rc} (h : GoodR l) (k : Nat) : GoodR (l.take k) := fun i r hr => by
  rw [List.getElem?_take] at hr
  split at hr
  · rename_i hi
    rw [List.take_take, Nat.min_eq_left (Nat.le_of_lt hi)]
    exact h i r hr
  · cases hr
/-- One bad step, and it is no chain. -/
theorem bad_at {l : List Rc} {k : Nat} {r : Rc} (hr : l[k]? = some r) (h : ¬ StepR (l.take k) r) : ¬ GoodR l := fun g => h (g k r hr)
theorem good_upto {l : List Rc} {k : Nat} {r : Rc} (hr : l[k]? = some r) (h : GoodR (l.take k)) (hs : StepR (l.take k) r) : GoodR (l.take (k + 1)) := by
  rw [List.take_add_one, hr]; exact good_snoc.2 ⟨h, hs⟩
theorem good_seq {l : List Rc} (h : GoodR l) {i : Nat} {r : Rc} (hr : l[i]? = some r) : r.seq = i + 1 := by
  have h1 := (h i r hr).2.1
  have hi := (List.getElem?_eq_some_iff.1 hr).1
  rw [List.length_take, Nat.min_eq_left (Nat.le_of_lt hi)] at h1
  exact h1
theorem good_may {l : List Rc} (h : GoodR l) {r : Rc} (hr : r ∈ l) : MayR r := by
  obtain ⟨i, hi⟩ := List.getElem?_of_mem hr
  exact (h i r hi).1
/-- In a chain all that came ahead counts. -/
def memL (l : List Rc) (d : Int) : Bool := l.foldl (fun b r => if r.dev = d then decide (r.kind = 1) else b) false
theorem memL_snoc (l : List Rc) (r : Rc) (d : Int) : memL (l ++ [r]) d = if r.dev = d then decide (r.kind = 1) else memL l d := by unfold memL; rw [List.foldl_append]; rfl
theorem memL_in : ∀ (l : List Rc) (e d : Int), (∀ r ∈ l, r.seq ≤ e ∧ (r.kind = 1 ∨ r.kind = 2)) → inL l e d = memL l d := by
  intro l e d
  unfold inL memL
  generalize false = b0
  revert b0
  induction l with
  | nil => intro b0 _; rfl
  | cons r l ih =>
    intro b0 h
    rw [List.foldl_cons, List.foldl_cons, ih _ fun x hx => h x (by simp [hx])]
    have h1 := h r (by simp)
    unfold goesIn
    by_cases hd : r.dev = d
    · rw [if_pos ⟨h1.1, hd, h1.2⟩, if_pos hd]
    · rw [if_neg (fun k => hd k.2.1), if_neg hd]
theorem good_in {l : List Rc} (h : GoodR l) (d : Int) : inL l l.length d = memL l d := memL_in _ _ _ fun r hr => by
  obtain ⟨i, hi⟩ := List.getElem?_of_mem hr
  have h1 := good_seq h hi
  have h2 := (List.getElem?_eq_some_iff.1 hi).1
  have h3 := (h i r hi).1.1
  unfold MayH at h3
  exact ⟨by omega, h3.2.2.2.1⟩
/-- Who is a member of a chain is a device that there is. -/
theorem memL_dev {l : List Rc} (h : ∀ r ∈ l, 0 ≤ r.dev ∧ r.dev < 8) {d : Int} (hd : ¬ (0 ≤ d ∧ d < 8)) : memL l d = false := by
  unfold memL
  generalize hb : false = b0
  rw [← hb]
  clear hb b0
  induction l with
  | nil => rfl
  | cons r l ih =>
    have h1 := h r (by simp)
    rw [List.foldl_cons, if_neg (fun (e : r.dev = d) => hd (by rw [← e]; exact h1))]
    exact ih fun x hx => h x (by simp [hx])
theorem good_mem {l : List Rc} (h : GoodR l) (d : Int) : inB l l.length d = memL l d := by
  unfold inB
  rw [good_in h]
  by_cases hd : 0 ≤ d ∧ d < 8
  · rw [decide_eq_true hd.1, decide_eq_true hd.2, Bool.and_self, Bool.and_true]
  · rw [memL_dev (fun r hr => by have h1 := (good_may h hr).1; unfold MayH at h1; omega) hd]; rfl
/-- 0 never goes. -/
theorem mem_0_upto {l : List Rc} (h : GoodR l) : ∀ k, k < l.length → memL (l.take (k + 1)) 0 = true
  | 0, hk => by
    obtain ⟨r, hr⟩ : ∃ r, l[0]? = some r := ⟨_, List.getElem?_eq_getElem hk⟩
    have h1 := (h 0 r hr).2.2.2.1 rfl
    rw [List.take_add_one, hr]
    show (if r.dev = 0 then decide (r.kind = 1) else false) = true
    rw [if_pos h1.2, decide_eq_true h1.1]
  | k + 1, hk => by
    obtain ⟨r, hr⟩ : ∃ r, l[k + 1]? = some r := ⟨_, List.getElem?_eq_getElem hk⟩
    have h1 := h (k + 1) r hr
    rw [List.take_add_one, hr]
    show memL (l.take (k + 1) ++ [r]) 0 = true
    rw [memL_snoc]
    by_cases hd : r.dev = 0
    · rw [if_pos hd]
      have h3 := h1.1.1
      unfold MayH at h3
      rcases h3.2.2.2.1 with hk | hk
      · exact decide_eq_true hk
      · exact absurd hd (h1.2.2.2.2.2 hk).2
    · rw [if_neg hd]
      exact mem_0_upto h k (by omega)
theorem mem_0 {l : List Rc} (h : GoodR l) (hl : l ≠ []) : memL l 0 = true := by
  have hp := List.length_pos_iff.2 hl
  have h1 := mem_0_upto h (l.length - 1) (by omega)
  rwa [show l.length - 1 + 1 = l.length by omega, List.take_length] at h1

/-! ### Chains by numbers -/
def firstR : Rc := ⟨1, ⟨#[]⟩, 1, 0, [], ⟨#[]⟩⟩
/-- A record without wraps. -/
noncomputable def bare (l : List Rc) (kind dev : Int) (tag : ByteArray) : Rc := ⟨l.length + 1, lastH l, kind, dev, [], tag⟩
theorem bare_may {l : List Rc} {kind dev : Int} {tag : ByteArray} (hl : l.length < 1000) (hk : kind = 1 ∨ kind = 2) (hd : 0 ≤ dev ∧ dev < 8) (ht : tag.size = 16 ∨ tag.size = 0) : MayR (bare l kind dev tag) := by
  refine ⟨⟨?_, ?_, ?_, hk, hd.1, hd.2, ht⟩, fun w hw => (by cases hw), rise_nil⟩
  · show (1 : Int) ≤ (l.length : Int) + 1; omega
  · show (l.length : Int) + 1 ≤ 1048576; omega
  · by_cases h : l = []
    · subst h; exact .inr ⟨rfl, rfl⟩
    · exact .inl (lastH_size h)
theorem bare_step {l : List Rc} {kind dev : Int} {tag : ByteArray} (hg : GoodR l) (h0 : l ≠ []) (hl : l.length < 1000) (hd : 0 < dev ∧ dev < 8) (ht : tag.size = 16 ∨ tag.size = 0) (hk : kind = if memL l dev then 2 else 1) : GoodR (l ++ [bare l kind dev tag]) := by
  have hm := good_mem hg dev
  have hkk : kind = 1 ∨ kind = 2 := by rw [hk]; split <;> simp
  refine good_snoc.2 ⟨hg, bare_may hl hkk ⟨by omega, hd.2⟩ ht, rfl, rfl, fun e => absurd e h0, fun h1 => ?_, fun h2 => ?_⟩
  · show inB l l.length dev = false
    rw [hm]
    have h1 : kind = 1 := h1
    cases hb : memL l dev
    · rfl
    · rw [hk, hb] at h1; simp at h1
  · refine ⟨?_, by show dev ≠ 0; omega⟩
    show inB l l.length dev = true
    rw [hm]
    have h2 : kind = 2 := h2
    cases hb : memL l dev
    · rw [hk, hb] at h2; simp at h2
    · rfl
theorem first_step : StepR [] firstR := by
  refine ⟨⟨⟨by decide, by decide, .inr ⟨rfl, rfl⟩, .inl rfl, by decide, by decide, .inr rfl⟩, fun w hw => (by cases hw), rise_nil⟩, rfl, rfl, fun _ => ⟨rfl, rfl⟩, fun _ => rfl, fun h => absurd h (by decide)⟩
theorem first_good : GoodR [firstR] := good_snoc (l := []).2 ⟨good_nil, first_step⟩
theorem first_is : bare [] 1 0 ⟨#[]⟩ = firstR := rfl

/-- The chain that numbers make. -/
def tagC : ByteArray := ⟨#[48, 49, 50, 51, 52, 53, 54, 55, 56, 57, 97, 98, 99, 100, 101, 102]⟩
noncomputable def nextC (l : List Rc) (n : Nat) : Rc := bare l (if inB l l.length (1 + ((n % 7 : Nat) : Int)) then 2 else 1) (1 + ((n % 7 : Nat) : Int)) (if 127 < n then tagC else ⟨#[]⟩)
noncomputable def chainC (ns : List Nat) : List Rc := (ns.take 29).foldl (fun l n => l ++ [nextC l n]) [firstR]
theorem chain_len (l0 : List Rc) : ∀ ns : List Nat, (ns.foldl (fun l n => l ++ [nextC l n]) l0).length = l0.length + ns.length := by
  intro ns
  induction ns generalizing l0 with
  | nil => rfl
  | cons n ns ih => rw [List.foldl_cons, ih]; simp; omega
theorem chain_good : ∀ (ns : List Nat) (l0 : List Rc), GoodR l0 → l0 ≠ [] → l0.length + ns.length < 1000 → GoodR (ns.foldl (fun l n => l ++ [nextC l n]) l0)
  | [], _, h, _, _ => h
  | n :: ns, l0, h, h0, hl => by
    rw [List.length_cons] at hl
    rw [List.foldl_cons]
    refine chain_good ns _ ?_ (by simp) (by rw [List.length_append, List.length_singleton]; omega)
    have hm : n % 7 < 7 := Nat.mod_lt _ (by decide)
    exact bare_step h h0 (by omega) ⟨by omega, by omega⟩ (by split <;> simp [tagC, ByteArray.size]) (by rw [good_mem h])
theorem chainC_good (ns : List Nat) : GoodR (chainC ns) := chain_good _ _ first_good (by simp) (by rw [List.length_take]; simp; omega)
theorem chainC_len (ns : List Nat) : (chainC ns).length = 1 + min 29 ns.length := by unfold chainC; rw [chain_len, List.length_take]; rfl
theorem chainC_chain (ns : List Nat) : ChainR (chainC ns) := ⟨by rw [chainC_len]; omega, chainC_good ns⟩
theorem chainC_next {ns : List Nat} {k n : Nat} (hk : k < 29) (hn : ns[k]? = some n) : (ns.take (k + 1)).foldl (fun l n => l ++ [nextC l n]) [firstR] = (ns.take k).foldl (fun l n => l ++ [nextC l n]) [firstR] ++ [nextC ((ns.take k).foldl (fun l n => l ++ [nextC l n]) [firstR]) n] := by
  rw [List.take_add_one, hn, List.foldl_append]; rfl

/-! ### So many of them -/
noncomputable def manyR : Nat → List Rc
  | 0 => []
  | k + 1 => manyR k ++ [bare (manyR k) (if k % 2 = 0 ∧ k ≠ 0 then 2 else 1) (if k = 0 then 0 else 1) ⟨#[]⟩]
theorem many_len : ∀ k, (manyR k).length = k
  | 0 => rfl
  | k + 1 => by rw [manyR, List.length_append, many_len k]; rfl
theorem many_mem : ∀ k, memL (manyR k) 1 = decide (k % 2 = 0 ∧ 2 ≤ k)
  | 0 => rfl
  | k + 1 => by
    rw [manyR, memL_snoc]
    show (if (if k = 0 then (0 : Int) else 1) = 1 then decide ((if k % 2 = 0 ∧ k ≠ 0 then (2 : Int) else 1) = 1) else memL (manyR k) 1) = _
    by_cases h0 : k = 0
    · subst h0; rfl
    · rw [if_neg h0, if_pos rfl]
      by_cases h1 : k % 2 = 0
      · rw [if_pos ⟨h1, h0⟩, decide_eq_false (by decide), decide_eq_false (by omega)]
      · rw [if_neg (fun h => h1 h.1), decide_eq_true rfl, decide_eq_true (by omega)]
theorem many_good : ∀ k, k < 1000 → GoodR (manyR k)
  | 0, _ => good_nil
  | 1, _ => by
    show GoodR ([] ++ [bare [] 1 0 ⟨#[]⟩])
    rw [first_is]; exact first_good
  | k + 2, h => by
    rw [manyR]
    have hl := many_len (k + 1)
    refine bare_step (many_good (k + 1) (by omega)) (fun e => by rw [e] at hl; simp at hl) (by omega) ?_ (.inr rfl) ?_
    · rw [if_neg (by omega)]; decide
    · rw [if_neg (show ¬ k + 1 = 0 by omega), many_mem]
      by_cases h1 : (k + 1) % 2 = 0
      · rw [if_pos ⟨h1, by omega⟩, decide_eq_true ⟨h1, by omega⟩]; rfl
      · rw [if_neg (fun h => h1 h.1), decide_eq_false (fun h => h1 h.1)]; rfl
theorem many_chain {k : Nat} (h : k < 1000) : ChainR (manyR k) ↔ k ≤ 40 := by
  unfold ChainR
  rw [many_len]
  exact ⟨fun x => x.1, fun x => ⟨x, many_good k h⟩⟩
/-- What is no chain: who isn't 0 comes first; 0 goes; 0 comes twice. -/
theorem not_other {r : Rc} (h : ¬ (r.kind = 1 ∧ r.dev = 0)) : ¬ ChainR [r] := fun c => h ((c.2 0 r rfl).2.2.2.1 rfl)
theorem not_goes {a b : Rc} (hk : b.kind = 2) (hd : b.dev = 0) : ¬ ChainR [a, b] := fun c => ((c.2 1 b rfl).2.2.2.2.2 hk).2 hd
theorem not_twice {b : Rc} (hk : b.kind = 1) (hd : b.dev = 0) : ¬ ChainR [firstR, b] := fun c => by
  have h := (c.2 1 b rfl).2.2.2.2.1 hk
  rw [hd] at h
  have g : inB [firstR] 1 0 = true := rfl
  have h : inB [firstR] 1 0 = false := h
  rw [g] at h; cases h
end Go.Proofs.Ytaecfcodldbnhaa.Mb
