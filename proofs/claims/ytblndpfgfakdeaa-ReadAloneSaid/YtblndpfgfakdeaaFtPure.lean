/- States as plain lists: the order of dots, facts in order, what two states are together, what a deed makes. -/
import Derived.Test.YtblndpfgfakdeaaDtPure2
import Derived.Test.YtblndpfgfakdeaaDtOf
set_option linter.unusedVariables false
namespace Go.Proofs.Ytblndpfgfakdeaa.Dt

/-- A fact. -/
structure Fc where
  d : Int
  n : Int
  key : ByteArray
  kind : Int
  item : ByteArray
  v : Int
/-- A state. -/
structure St where
  seen : List Rn
  facts : List Fc
theorem Fc.same {f g : Fc} (h1 : f.d = g.d) (h2 : f.n = g.n) (h3 : f.key = g.key) (h4 : f.kind = g.kind) (h5 : f.item = g.item) (h6 : f.v = g.v) : f = g := by
  cases f; cases g; simp_all
theorem St.same {s t : St} (h1 : s.seen = t.seen) (h2 : s.facts = t.facts) : s = t := by cases s; cases t; simp_all

/-! The order of dots. -/
def Lt (d n e m : Int) : Prop := d < e ∨ (d = e ∧ n < m)
instance (d n e m : Int) : Decidable (Lt d n e m) := inferInstanceAs (Decidable (d < e ∨ (d = e ∧ n < m)))
def cmpD (d n e m : Int) : Int := if Lt d n e m then -1 else if d = e ∧ n = m then 0 else 1
/-- One fact's dot is ahead of another one's. -/
def FLt (f g : Fc) : Prop := Lt f.d f.n g.d g.n
instance (f g : Fc) : Decidable (FLt f g) := inferInstanceAs (Decidable (Lt f.d f.n g.d g.n))
theorem FLt.trans {f g h : Fc} (a : FLt f g) (b : FLt g h) : FLt f h := by unfold FLt Lt at *; omega
theorem FLt.irr {f g : Fc} (a : FLt f g) (b : f.d = g.d ∧ f.n = g.n) : False := by unfold FLt Lt at *; omega
theorem FLt.asym {f g : Fc} (a : FLt f g) (b : FLt g f) : False := by unfold FLt Lt at *; omega
/-- Facts by rising dots. -/
def Sor (l : List Fc) : Prop := l.Pairwise FLt
theorem Sor.tail {f : Fc} {l : List Fc} (h : Sor (f :: l)) : Sor l := (List.pairwise_cons.1 h).2
theorem Sor.head {f : Fc} {l : List Fc} (h : Sor (f :: l)) : ∀ g ∈ l, FLt f g := (List.pairwise_cons.1 h).1
/-- In such a list no two have one dot. -/
theorem Sor.one {l : List Fc} (h : Sor l) {f g : Fc} (hf : f ∈ l) (hg : g ∈ l) (hd : f.d = g.d ∧ f.n = g.n) : f = g := by
  induction l with
  | nil => cases hf
  | cons x l ih =>
    rcases List.mem_cons.1 hf with e1 | h1 <;> rcases List.mem_cons.1 hg with e2 | h2
    · rw [e1, e2]
    · subst e1; exact ((h.head g h2).irr hd).elim
    · subst e2; exact ((h.head f h1).irr ⟨hd.1.symm, hd.2.symm⟩).elim
    · exact ih h.tail h1 h2
/-- Two such lists of the same facts are one. -/
theorem sor_canon : ∀ {a b : List Fc}, Sor a → Sor b → (∀ f, f ∈ a ↔ f ∈ b) → a = b
  | [], [], _, _, _ => rfl
  | [], g :: b, _, _, h => by have := (h g).2 (by simp); cases this
  | f :: a, [], _, _, h => by have := (h f).1 (by simp); cases this
  | f :: a, g :: b, ha, hb, h => by
    have e : f = g := by
      rcases List.mem_cons.1 ((h f).1 (by simp)) with e | h1
      · exact e
      · rcases List.mem_cons.1 ((h g).2 (by simp)) with e | h2
        · exact e.symm
        · exact ((hb.head f h1).asym (ha.head g h2)).elim
    subst e
    rw [sor_canon ha.tail hb.tail fun x => ?_]
    constructor
    · intro hx
      rcases List.mem_cons.1 ((h x).1 (by simp [hx])) with e | h1
      · subst e; exact ((ha.head x hx).irr ⟨rfl, rfl⟩).elim
      · exact h1
    · intro hx
      rcases List.mem_cons.1 ((h x).2 (by simp [hx])) with e | h1
      · subst e; exact ((hb.head x hx).irr ⟨rfl, rfl⟩).elim
      · exact h1
theorem Sor.filter {l : List Fc} (h : Sor l) (p : Fc → Bool) : Sor (l.filter p) := List.Pairwise.filter p h
/-- A fact set in where it belongs. -/
def insF (f : Fc) : List Fc → List Fc
  | [] => [f]
  | g :: l => if FLt f g then f :: g :: l else g :: insF f l
theorem insF_mem (f x : Fc) : ∀ l, x ∈ insF f l ↔ x = f ∨ x ∈ l
  | [] => by simp [insF]
  | g :: l => by
    rw [insF]
    split
    · simp
    · rw [List.mem_cons, insF_mem f x l, List.mem_cons]
      constructor
      · rintro (h | h | h)
        · exact .inr (.inl h)
        · exact .inl h
        · exact .inr (.inr h)
      · rintro (h | h | h)
        · exact .inr (.inl h)
        · exact .inl h
        · exact .inr (.inr h)
theorem insF_sor (f : Fc) : ∀ l, Sor l → (∀ g ∈ l, ¬ (f.d = g.d ∧ f.n = g.n)) → Sor (insF f l)
  | [], _, _ => List.pairwise_singleton _ _
  | g :: l, h, hn => by
    rw [insF]
    split
    · rename_i hlt
      refine List.pairwise_cons.2 ⟨fun x hx => ?_, h⟩
      rcases List.mem_cons.1 hx with e | h1
      · subst e; exact hlt
      · exact hlt.trans (h.head x h1)
    · rename_i hlt
      refine List.pairwise_cons.2 ⟨fun x hx => ?_, insF_sor f l h.tail fun y hy => hn y (by simp [hy])⟩
      rcases (insF_mem f x l).1 hx with e | h1
      · subst e
        have := hn g (by simp)
        unfold FLt Lt at *; omega
      · exact h.head x h1
theorem insF_len (f : Fc) : ∀ l, (insF f l).length = l.length + 1
  | [] => rfl
  | g :: l => by
    rw [insF]
    split
    · rfl
    · rw [List.length_cons, insF_len f l, List.length_cons]
def mixF (a b : List Fc) : List Fc := a.foldr insF b
theorem mixF_mem (a b : List Fc) (x : Fc) : x ∈ mixF a b ↔ x ∈ a ∨ x ∈ b := by
  unfold mixF
  induction a with
  | nil => simp
  | cons f a ih => rw [List.foldr_cons, insF_mem, ih, List.mem_cons]; exact or_assoc.symm
theorem mixF_sor {a b : List Fc} (ha : Sor a) (hb : Sor b) (h : ∀ f ∈ a, ∀ g ∈ b, ¬ (f.d = g.d ∧ f.n = g.n)) : Sor (mixF a b) := by
  induction a with
  | nil => exact hb
  | cons f a ih =>
    refine insF_sor f _ (ih ha.tail fun x hx => h x (by simp [hx])) fun g hg => ?_
    rcases (mixF_mem a b g).1 hg with h1 | h1
    · exact fun e => (ha.head g h1).irr e
    · exact h f (by simp) g h1
theorem mixF_len (a b : List Fc) : (mixF a b).length = a.length + b.length := by
  unfold mixF
  induction a with
  | nil => simp
  | cons f a ih => rw [List.foldr_cons, insF_len, ih, List.length_cons]; omega

/-! States. -/
/-- Has the list a fact of that dot? -/
def atB (l : List Fc) (d n : Int) : Bool := l.any fun f => decide (f.d = d ∧ f.n = n)
theorem atB_iff (l : List Fc) (d n : Int) : atB l d n = true ↔ ∃ f ∈ l, f.d = d ∧ f.n = n := by
  unfold atB; rw [List.any_eq_true]
  exact ⟨fun ⟨f, hf, h⟩ => ⟨f, hf, of_decide_eq_true h⟩, fun ⟨f, hf, h⟩ => ⟨f, hf, decide_eq_true h⟩⟩
/-- Facts in order, whose dots were seen. -/
def SS (s : St) : Prop := Dt.May s.seen ∧ (∀ f ∈ s.facts, Has s.seen f.d f.n) ∧ Sor s.facts
def stayA (a b : St) (f : Fc) : Bool := !hasB b.seen f.d f.n || atB b.facts f.d f.n
def stayB (a : St) (f : Fc) : Bool := !hasB a.seen f.d f.n
def joinF (a b : St) : List Fc := mixF (a.facts.filter (stayA a b)) (b.facts.filter (stayB a))
def joinS (a b : St) : St := ⟨unionR a.seen b.seen, joinF a b⟩
theorem joinF_mem (a b : St) (f : Fc) : f ∈ joinF a b ↔ (f ∈ a.facts ∧ stayA a b f = true) ∨ (f ∈ b.facts ∧ stayB a f = true) := by
  unfold joinF; rw [mixF_mem, List.mem_filter, List.mem_filter]
theorem joinF_sor {a b : St} (ha : SS a) (hb : SS b) : Sor (joinF a b) := by
  refine mixF_sor (ha.2.2.filter _) (hb.2.2.filter _) fun f hf g hg e => ?_
  have h1 := ha.2.1 f (List.mem_filter.1 hf).1
  have h2 := (List.mem_filter.1 hg).2
  unfold stayB at h2
  rw [← e.1, ← e.2, (hasB_iff _ _ _).2 h1] at h2
  cases h2
theorem joinF_len (a b : St) : (joinF a b).length ≤ a.facts.length + b.facts.length := by
  unfold joinF; rw [mixF_len]
  have := List.length_filter_le (stayA a b) a.facts
  have := List.length_filter_le (stayB a) b.facts
  omega
theorem join_ss {a b : St} (ha : SS a) (hb : SS b) : SS (joinS a b) := by
  refine ⟨union_may ha.1 hb.1, fun f hf => ?_, joinF_sor ha hb⟩
  show Has (unionR a.seen b.seen) f.d f.n
  rw [union_has ha.1 hb.1]
  rcases (joinF_mem a b f).1 hf with h | h
  · exact .inl (ha.2.1 f h.1)
  · exact .inr (hb.2.1 f h.1)
/-- What is in order, and has just these facts, is the two together. -/
theorem is_join {a b : St} (ha : SS a) (hb : SS b) {l : List Fc} (hl : Sor l) (h : ∀ f, f ∈ l ↔ (f ∈ a.facts ∧ stayA a b f = true) ∨ (f ∈ b.facts ∧ stayB a f = true)) : l = joinF a b :=
  sor_canon hl (joinF_sor ha hb) fun f => by rw [h, joinF_mem]
def RightF (f : Fc) : Prop := f.key.size ≤ 40 ∧ (((f.kind = 1 ∨ f.kind = 2) ∧ f.item.size ≤ 200 ∧ f.v = 0) ∨ (f.kind = 3 ∧ f.item.size = 0 ∧ -1099511627776 ≤ f.v ∧ f.v ≤ 1099511627776))
instance (f : Fc) : Decidable (RightF f) := inferInstanceAs (Decidable (f.key.size ≤ 40 ∧ (((f.kind = 1 ∨ f.kind = 2) ∧ f.item.size ≤ 200 ∧ f.v = 0) ∨ (f.kind = 3 ∧ f.item.size = 0 ∧ -1099511627776 ≤ f.v ∧ f.v ≤ 1099511627776))))
/-- What may be, by the document. -/
def MayS (s : St) : Prop := Dt.May s.seen ∧ s.facts.length ≤ 400 ∧ (∀ f ∈ s.facts, RightF f ∧ Has s.seen f.d f.n) ∧ Sor s.facts
theorem MayS.ss {s : St} (h : MayS s) : SS s := ⟨h.1, fun f hf => (h.2.2.1 f hf).2, h.2.2.2⟩
theorem mayS_of {s : St} (h : SS s) (hr : ∀ f ∈ s.facts, RightF f) (hl : s.facts.length ≤ 400) : MayS s := ⟨h.1, hl, fun f hf => ⟨hr f hf, h.2.1 f hf⟩, h.2.2⟩
theorem join_right {a b : St} (ha : ∀ f ∈ a.facts, RightF f) (hb : ∀ f ∈ b.facts, RightF f) : ∀ f ∈ (joinS a b).facts, RightF f := fun f hf => by
  rcases (joinF_mem a b f).1 hf with h | h
  · exact ha f h.1
  · exact hb f h.1

/-! The laws of join. -/
/-- Who has a fact of one dot has the same. -/
def Agree (a b : St) : Prop := ∀ f ∈ a.facts, ∀ g ∈ b.facts, f.d = g.d → f.n = g.n → f = g
theorem Agree.symm {a b : St} (h : Agree a b) : Agree b a := fun f hf g hg e1 e2 => (h g hg f hf e1.symm e2.symm).symm
theorem SS.agree {a : St} (h : SS a) : Agree a a := fun _ hf _ hg e1 e2 => h.2.2.one hf hg ⟨e1, e2⟩
/-- Which facts two states that agree have together: as the document says it. -/
theorem join_iff {a b : St} (ha : SS a) (hb : SS b) (hab : Agree a b) (f : Fc) : f ∈ (joinS a b).facts ↔ (f ∈ a.facts ∧ (f ∈ b.facts ∨ ¬ Has b.seen f.d f.n)) ∨ (f ∈ b.facts ∧ (f ∈ a.facts ∨ ¬ Has a.seen f.d f.n)) := by
  show f ∈ joinF a b ↔ _
  rw [joinF_mem]
  unfold stayA stayB
  rw [Bool.or_eq_true, Bool.not_eq_true', Bool.eq_false_iff, ne_eq, hasB_iff, atB_iff, Bool.not_eq_true', Bool.eq_false_iff, ne_eq, hasB_iff]
  constructor
  · rintro (⟨h1, h2 | ⟨g, hg, e1, e2⟩⟩ | ⟨h1, h2⟩)
    · exact .inl ⟨h1, .inr h2⟩
    · rw [← hab f h1 g hg e1.symm e2.symm] at hg; exact .inl ⟨h1, .inl hg⟩
    · exact .inr ⟨h1, .inr h2⟩
  · rintro (⟨h1, h2 | h2⟩ | ⟨h1, h2 | h2⟩)
    · exact .inl ⟨h1, .inr ⟨f, h2, rfl, rfl⟩⟩
    · exact .inl ⟨h1, .inl h2⟩
    · exact .inl ⟨h2, .inr ⟨f, h1, rfl, rfl⟩⟩
    · exact .inr ⟨h1, h2⟩
theorem join_seen {a b : St} (ha : SS a) (hb : SS b) (d n : Int) : Has (joinS a b).seen d n ↔ Has a.seen d n ∨ Has b.seen d n := union_has ha.1 hb.1 d n
/-- Two states that may be, of the same runs' dots and facts, are one. -/
theorem st_canon {a b : St} (ha : SS a) (hb : SS b) (h1 : ∀ d n, Has a.seen d n ↔ Has b.seen d n) (h2 : ∀ f, f ∈ a.facts ↔ f ∈ b.facts) : a = b :=
  St.same (canon _ _ ha.1 hb.1 h1) (sor_canon ha.2.2 hb.2.2 h2)
theorem join_comm {a b : St} (ha : SS a) (hb : SS b) (hab : Agree a b) : joinS a b = joinS b a :=
  st_canon (join_ss ha hb) (join_ss hb ha) (fun d n => by rw [join_seen ha hb, join_seen hb ha]; exact or_comm) fun f => by rw [join_iff ha hb hab, join_iff hb ha hab.symm]; exact or_comm
theorem join_self {a : St} (ha : SS a) : joinS a a = a :=
  st_canon (join_ss ha ha) ha (fun d n => by rw [join_seen ha ha]; exact or_self_iff) fun f => by
    rw [join_iff ha ha ha.agree]
    exact ⟨fun h => h.elim (·.1) (·.1), fun h => .inl ⟨h, .inl h⟩⟩
theorem agree_join {a b c : St} (ha : SS a) (hb : SS b) (hac : Agree a c) (hbc : Agree b c) : Agree (joinS a b) c := fun f hf g hg e1 e2 => by
  rcases (joinF_mem a b f).1 hf with h | h
  · exact hac f h.1 g hg e1 e2
  · exact hbc f h.1 g hg e1 e2
theorem join_assoc {a b c : St} (ha : SS a) (hb : SS b) (hc : SS c) (hab : Agree a b) (hac : Agree a c) (hbc : Agree b c) : joinS (joinS a b) c = joinS a (joinS b c) := by
  have h1 := join_ss ha hb
  have h2 := join_ss hb hc
  refine st_canon (join_ss h1 hc) (join_ss ha h2) (fun d n => ?_) fun f => ?_
  · rw [join_seen h1 hc, join_seen ha hb, join_seen ha h2, join_seen hb hc]; exact or_assoc
  · rw [join_iff h1 hc (agree_join ha hb hac hbc), join_iff ha h2 (agree_join hb hc hab.symm hac.symm).symm, join_iff ha hb hab, join_iff hb hc hbc, join_seen ha hb, join_seen hb hc]
    have sa := ha.2.1 f
    have sb := hb.2.1 f
    have sc := hc.2.1 f
    by_cases p1 : f ∈ a.facts <;> by_cases p2 : f ∈ b.facts <;> by_cases p3 : f ∈ c.facts <;> by_cases q1 : Has a.seen f.d f.n <;> by_cases q2 : Has b.seen f.d f.n <;> by_cases q3 : Has c.seen f.d f.n <;> simp_all
theorem join_more {a b : St} (ha : SS a) (hb : SS b) (hab : Agree a b) : joinS (joinS a b) a = joinS a b := by
  rw [join_comm (join_ss ha hb) ha (agree_join ha hb ha.agree hab.symm), ← join_assoc ha ha hb ha.agree hab hab, join_self ha]
end Go.Proofs.Ytblndpfgfakdeaa.Dt
