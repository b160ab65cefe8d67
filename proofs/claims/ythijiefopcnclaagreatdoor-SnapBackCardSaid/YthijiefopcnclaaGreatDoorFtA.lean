/- States as plain lists: the order of dots, facts in order, what two states are together, what a deed makes. Facts and states in memory. The program's small functions over runs: what they answer, and that they only make memory. cmp.Compare, cmp.Or of two. Two runs held against one another. Two dots, two facts held against one another. Right and Cmp, the program's and the document's. -/
import Derived.Test.YthijiefopcnclaaGreatDoorDtB
import Derived.Test.YthijiefopcnclaaGreatDoorDtA
import Derived.Test.YthijiefopcnclaaGreatDoorTdA
import Derived.Sort.Grow
import Derived.Lib.SmallJoins
import Derived.Deep.DeepCutAuto
import Derived.Laws.StructEq
import Derived.ChangeKeysEq
section
set_option linter.unusedVariables false
namespace Go.Proofs.YthijiefopcnclaaGreatDoor.Dt

/-- A fact. -/
structure Fc where
  d : Int
  n : Int
  key : ByteArray
  kind : Int
  item : ByteArray
  v : Int
/-- A state. -/
structure St where
  seen : List Rn
  facts : List Fc
theorem Fc.same {f g : Fc} (h1 : f.d = g.d) (h2 : f.n = g.n) (h3 : f.key = g.key) (h4 : f.kind = g.kind) (h5 : f.item = g.item) (h6 : f.v = g.v) : f = g := by
  cases f; cases g; simp_all
theorem St.same {s t : St} (h1 : s.seen = t.seen) (h2 : s.facts = t.facts) : s = t := by cases s; cases t; simp_all

/-! The order of dots. -/
def Lt (d n e m : Int) : Prop := d < e ∨ (d = e ∧ n < m)
instance (d n e m : Int) : Decidable (Lt d n e m) := inferInstanceAs (Decidable (d < e ∨ (d = e ∧ n < m)))
def cmpD (d n e m : Int) : Int := if Lt d n e m then -1 else if d = e ∧ n = m then 0 else 1
/-- One fact's dot is ahead of another one's. -/
def FLt (f g : Fc) : Prop := Lt f.d f.n g.d g.n
instance (f g : Fc) : Decidable (FLt f g) := inferInstanceAs (Decidable (Lt f.d f.n g.d g.n))
theorem FLt.trans {f g h : Fc} (a : FLt f g) (b : FLt g h) : FLt f h := by unfold FLt Lt at *; omega
theorem FLt.irr {f g : Fc} (a : FLt f g) (b : f.d = g.d ∧ f.n = g.n) : False := by unfold FLt Lt at *; omega
theorem FLt.asym {f g : Fc} (a : FLt f g) (b : FLt g f) : False := by unfold FLt Lt at *; omega
/-- Facts by rising dots. -/
def Sor (l : List Fc) : Prop := l.Pairwise FLt
theorem Sor.tail {f : Fc} {l : List Fc} (h : Sor (f :: l)) : Sor l := (List.pairwise_cons.1 h).2
theorem Sor.head {f : Fc} {l : List Fc} (h : Sor (f :: l)) : ∀ g ∈ l, FLt f g := (List.pairwise_cons.1 h).1
/-- In such a list no two have one dot. -/
theorem Sor.one {l : List Fc} (h : Sor l) {f g : Fc} (hf : f ∈ l) (hg : g ∈ l) (hd : f.d = g.d ∧ f.n = g.n) : f = g := by
  induction l with
  | nil => cases hf
  | cons x l ih =>
    rcases List.mem_cons.1 hf with e1 | h1 <;> rcases List.mem_cons.1 hg with e2 | h2
    · rw [e1, e2]
    · subst e1; exact ((h.head g h2).irr hd).elim
    · subst e2; exact ((h.head f h1).irr ⟨hd.1.symm, hd.2.symm⟩).elim
    · exact ih h.tail h1 h2
/-- Two such lists of the same facts are one. -/
theorem sor_canon : ∀ {a b : List Fc}, Sor a → Sor b → (∀ f, f ∈ a ↔ f ∈ b) → a = b
  | [], [], _, _, _ => rfl
  | [], g :: b, _, _, h => by have := (h g).2 (by simp); cases this
  | f :: a, [], _, _, h => by have := (h f).1 (by simp); cases this
  | f :: a, g :: b, ha, hb, h => by
    have e : f = g := by
      rcases List.mem_cons.1 ((h f).1 (by simp)) with e | h1
      · exact e
      · rcases List.mem_cons.1 ((h g).2 (by simp)) with e | h2
        · exact e.symm
        · exact ((hb.head f h1).asym (ha.head g h2)).elim
    subst e
    rw [sor_canon ha.tail hb.tail fun x => ?_]
    constructor
    · intro hx
      rcases List.mem_cons.1 ((h x).1 (by simp [hx])) with e | h1
      · subst e; exact ((ha.head x hx).irr ⟨rfl, rfl⟩).elim
      · exact h1
    · intro hx
      rcases List.mem_cons.1 ((h x).2 (by simp [hx])) with e | h1
      · subst e; exact ((hb.head x hx).irr ⟨rfl, rfl⟩).elim
      · exact h1
theorem Sor.filter {l : List Fc} (h : Sor l) (p : Fc → Bool) : Sor (l.filter p) := List.Pairwise.filter p h
/-- A fact set in where it belongs. -/
def insF (f : Fc) : List Fc → List Fc
  | [] => [f]
  | g :: l => if FLt f g then f :: g :: l else g :: insF f l
theorem insF_mem (f x : Fc) : ∀ l, x ∈ insF f l ↔ x = f ∨ x ∈ l
  | [] => by simp [insF]
  | g :: l => by
    rw [insF]
    split
    · simp
    · rw [List.mem_cons, insF_mem f x l, List.mem_cons]
      constructor
      · rintro (h | h | h)
        · exact .inr (.inl h)
        · exact .inl h
        · exact .inr (.inr h)
      · rintro (h | h | h)
        · exact .inr (.inl h)
        · exact .inl h
        · exact .inr (.inr h)
theorem insF_sor (f : Fc) : ∀ l, Sor l → (∀ g ∈ l, ¬ (f.d = g.d ∧ f.n = g.n)) → Sor (insF f l)
  | [], _, _ => List.pairwise_singleton _ _
  | g :: l, h, hn => by
    rw [insF]
    split
    · rename_i hlt
      refine List.pairwise_cons.2 ⟨fun x hx => ?_, h⟩
      rcases List.mem_cons.1 hx with e | h1
      · subst e; exact hlt
      · exact hlt.trans (h.head x h1)
    · rename_i hlt
      refine List.pairwise_cons.2 ⟨fun x hx => ?_, insF_sor f l h.tail fun y hy => hn y (by simp [hy])⟩
      rcases (insF_mem f x l).1 hx with e | h1
      · subst e
        have := hn g (by simp)
        unfold FLt Lt at *; omega
      · exact h.head x h1
theorem insF_len (f : Fc) : ∀ l, (insF f l).length = l.length + 1
  | [] => rfl
  | g :: l => by
    rw [insF]
    split
    · rfl
    · rw [List.length_cons, insF_len f l, List.length_cons]
def mixF (a b : List Fc) : List Fc := a.foldr insF b
theorem mixF_mem (a b : List Fc) (x : Fc) : x ∈ mixF a b ↔ x ∈ a ∨ x ∈ b := by
  unfold mixF
  induction a with
  | nil => simp
  | cons f a ih => rw [List.foldr_cons, insF_mem, ih, List.mem_cons]; exact or_assoc.symm
theorem mixF_sor {a b : List Fc} (ha : Sor a) (hb : Sor b) (h : ∀ f ∈ a, ∀ g ∈ b, ¬ (f.d = g.d ∧ f.n = g.n)) : Sor (mixF a b) := by
  induction a with
  | nil => exact hb
  | cons f a ih =>
    refine insF_sor f _ (ih ha.tail fun x hx => h x (by simp [hx])) fun g hg => ?_
    rcases (mixF_mem a b g).1 hg with h1 | h1
    · exact fun e => (ha.head g h1).irr e
    · exact h f (by simp) g h1
theorem mixF_len (a b : List Fc) : (mixF a b).length = a.length + b.length := by
  unfold mixF
  induction a with
  | nil => simp
  | cons f a ih => rw [List.foldr_cons, insF_len, ih, List.length_cons]; omega

/-! States. -/
/-- Has the list a fact of that dot? -/
def atB (l : List Fc) (d n : Int) : Bool := l.any fun f => decide (f.d = d ∧ f.n = n)
theorem atB_iff (l : List Fc) (d n : Int) : atB l d n = true ↔ ∃ f ∈ l, f.d = d ∧ f.n = n := by
  unfold atB; rw [List.any_eq_true]
  exact ⟨fun ⟨f, hf, h⟩ => ⟨f, hf, of_decide_eq_true h⟩, fun ⟨f, hf, h⟩ => ⟨f, hf, decide_eq_true h⟩⟩
/-- Facts in order, whose dots were seen. -/
def SS (s : St) : Prop := Dt.May s.seen ∧ (∀ f ∈ s.facts, Has s.seen f.d f.n) ∧ Sor s.facts
def stayA (a b : St) (f : Fc) : Bool := !hasB b.seen f.d f.n || atB b.facts f.d f.n
def stayB (a : St) (f : Fc) : Bool := !hasB a.seen f.d f.n
def joinF (a b : St) : List Fc := mixF (a.facts.filter (stayA a b)) (b.facts.filter (stayB a))
def joinS (a b : St) : St := ⟨unionR a.seen b.seen, joinF a b⟩
theorem joinF_mem (a b : St) (f : Fc) : f ∈ joinF a b ↔ (f ∈ a.facts ∧ stayA a b f = true) ∨ (f ∈ b.facts ∧ stayB a f = true) := by
  unfold joinF; rw [mixF_mem, List.mem_filter, List.mem_filter]
theorem joinF_sor {a b : St} (ha : SS a) (hb : SS b) : Sor (joinF a b) := by
  refine mixF_sor (ha.2.2.filter _) (hb.2.2.filter _) fun f hf g hg e => ?_
  have h1 := ha.2.1 f (List.mem_filter.1 hf).1
  have h2 := (List.mem_filter.1 hg).2
  unfold stayB at h2
  rw [← e.1, ← e.2, (hasB_iff _ _ _).2 h1] at h2
  cases h2
theorem joinF_len (a b : St) : (joinF a b).length ≤ a.facts.length + b.facts.length := by
  unfold joinF; rw [mixF_len]
  have := List.length_filter_le (stayA a b) a.facts
  have := List.length_filter_le (stayB a) b.facts
  omega
theorem join_ss {a b : St} (ha : SS a) (hb : SS b) : SS (joinS a b) := by
  refine ⟨union_may ha.1 hb.1, fun f hf => ?_, joinF_sor ha hb⟩
  show Has (unionR a.seen b.seen) f.d f.n
  rw [union_has ha.1 hb.1]
  rcases (joinF_mem a b f).1 hf with h | h
  · exact .inl (ha.2.1 f h.1)
  · exact .inr (hb.2.1 f h.1)
/-- What is in order, and has just these facts, is the two together. -/
theorem is_join {a b : St} (ha : SS a) (hb : SS b) {l : List Fc} (hl : Sor l) (h : ∀ f, f ∈ l ↔ (f ∈ a.facts ∧ stayA a b f = true) ∨ (f ∈ b.facts ∧ stayB a f = true)) : l = joinF a b :=
  sor_canon hl (joinF_sor ha hb) fun f => by rw [h, joinF_mem]
def RightF (f : Fc) : Prop := f.key.size ≤ 40 ∧ (((f.kind = 1 ∨ f.kind = 2) ∧ f.item.size ≤ 200 ∧ f.v = 0) ∨ (f.kind = 3 ∧ f.item.size = 0 ∧ -1099511627776 ≤ f.v ∧ f.v ≤ 1099511627776))
instance (f : Fc) : Decidable (RightF f) := inferInstanceAs (Decidable (f.key.size ≤ 40 ∧ (((f.kind = 1 ∨ f.kind = 2) ∧ f.item.size ≤ 200 ∧ f.v = 0) ∨ (f.kind = 3 ∧ f.item.size = 0 ∧ -1099511627776 ≤ f.v ∧ f.v ≤ 1099511627776))))
/-- What may be, by the document. -/
def MayS (s : St) : Prop := Dt.May s.seen ∧ s.facts.length ≤ 400 ∧ (∀ f ∈ s.facts, RightF f ∧ Has s.seen f.d f.n) ∧ Sor s.facts
theorem MayS.ss {s : St} (h : MayS s) : SS s := ⟨h.1, fun f hf => (h.2.2.1 f hf).2, h.2.2.2⟩
theorem mayS_of {s : St} (h : SS s) (hr : ∀ f ∈ s.facts, RightF f) (hl : s.facts.length ≤ 400) : MayS s := ⟨h.1, hl, fun f hf => ⟨hr f hf, h.2.1 f hf⟩, h.2.2⟩
theorem join_right {a b : St} (ha : ∀ f ∈ a.facts, RightF f) (hb : ∀ f ∈ b.facts, RightF f) : ∀ f ∈ (joinS a b).facts, RightF f := fun f hf => by
  rcases (joinF_mem a b f).1 hf with h | h
  · exact ha f h.1
  · exact hb f h.1

/-! The laws of join. -/
/-- Who has a fact of one dot has the same. -/
def Agree (a b : St) : Prop := ∀ f ∈ a.facts, ∀ g ∈ b.facts, f.d = g.d → f.n = g.n → f = g
theorem Agree.symm {a b : St} (h : Agree a b) : Agree b a := fun f hf g hg e1 e2 => (h g hg f hf e1.symm e2.symm).symm
theorem SS.agree {a : St} (h : SS a) : Agree a a := fun _ hf _ hg e1 e2 => h.2.2.one hf hg ⟨e1, e2⟩
/-- Which facts two states that agree have together: as the document says it. -/
theorem join_iff {a b : St} (ha : SS a) (hb : SS b) (hab : Agree a b) (f : Fc) : f ∈ (joinS a b).facts ↔ (f ∈ a.facts ∧ (f ∈ b.facts ∨ ¬ Has b.seen f.d f.n)) ∨ (f ∈ b.facts ∧ (f ∈ a.facts ∨ ¬ Has a.seen f.d f.n)) := by
  show f ∈ joinF a b ↔ _
  rw [joinF_mem]
  unfold stayA stayB
  rw [Bool.or_eq_true, Bool.not_eq_true', Bool.eq_false_iff, ne_eq, hasB_iff, atB_iff, Bool.not_eq_true', Bool.eq_false_iff, ne_eq, hasB_iff]
  constructor
  · rintro (⟨h1, h2 | ⟨g, hg, e1, e2⟩⟩ | ⟨h1, h2⟩)
    · exact .inl ⟨h1, .inr h2⟩
    · rw [← hab f h1 g hg e1.symm e2.symm] at hg; exact .inl ⟨h1, .inl hg⟩
    · exact .inr ⟨h1, .inr h2⟩
  · rintro (⟨h1, h2 | h2⟩ | ⟨h1, h2 | h2⟩)
    · exact .inl ⟨h1, .inr ⟨f, h2, rfl, rfl⟩⟩
    · exact .inl ⟨h1, .inl h2⟩
    · exact .inl ⟨h2, .inr ⟨f, h1, rfl, rfl⟩⟩
    · exact .inr ⟨h1, h2⟩
theorem join_seen {a b : St} (ha : SS a) (hb : SS b) (d n : Int) : Has (joinS a b).seen d n ↔ Has a.seen d n ∨ Has b.seen d n := union_has ha.1 hb.1 d n
/-- Two states that may be, of the same runs' dots and facts, are one. -/
theorem st_canon {a b : St} (ha : SS a) (hb : SS b) (h1 : ∀ d n, Has a.seen d n ↔ Has b.seen d n) (h2 : ∀ f, f ∈ a.facts ↔ f ∈ b.facts) : a = b :=
  St.same (canon _ _ ha.1 hb.1 h1) (sor_canon ha.2.2 hb.2.2 h2)
theorem join_comm {a b : St} (ha : SS a) (hb : SS b) (hab : Agree a b) : joinS a b = joinS b a :=
  st_canon (join_ss ha hb) (join_ss hb ha) (fun d n => by rw [join_seen ha hb, join_seen hb ha]; exact or_comm) fun f => by rw [join_iff ha hb hab, join_iff hb ha hab.symm]; exact or_comm
theorem join_self {a : St} (ha : SS a) : joinS a a = a :=
  st_canon (join_ss ha ha) ha (fun d n => by rw [join_seen ha ha]; exact or_self_iff) fun f => by
    rw [join_iff ha ha ha.agree]
    exact ⟨fun h => h.elim (·.1) (·.1), fun h => .inl ⟨h, .inl h⟩⟩
theorem agree_join {a b c : St} (ha : SS a) (hb : SS b) (hac : Agree a c) (hbc : Agree b c) : Agree (joinS a b) c := fun f hf g hg e1 e2 => by
  rcases (joinF_mem a b f).1 hf with h | h
  · exact hac f h.1 g hg e1 e2
  · exact hbc f h.1 g hg e1 e2
theorem join_assoc {a b c : St} (ha : SS a) (hb : SS b) (hc : SS c) (hab : Agree a b) (hac : Agree a c) (hbc : Agree b c) : joinS (joinS a b) c = joinS a (joinS b c) := by
  have h1 := join_ss ha hb
  have h2 := join_ss hb hc
  refine st_canon (join_ss h1 hc) (join_ss ha h2) (fun d n => ?_) fun f => ?_
  · rw [join_seen h1 hc, join_seen ha hb, join_seen ha h2, join_seen hb hc]; exact or_assoc
  · rw [join_iff h1 hc (agree_join ha hb hac hbc), join_iff ha h2 (agree_join hb hc hab.symm hac.symm).symm, join_iff ha hb hab, join_iff hb hc hbc, join_seen ha hb, join_seen hb hc]
    have sa := ha.2.1 f
    have sb := hb.2.1 f
    have sc := hc.2.1 f
    by_cases p1 : f ∈ a.facts <;> by_cases p2 : f ∈ b.facts <;> by_cases p3 : f ∈ c.facts <;> by_cases q1 : Has a.seen f.d f.n <;> by_cases q2 : Has b.seen f.d f.n <;> by_cases q3 : Has c.seen f.d f.n <;> simp_all
theorem join_more {a b : St} (ha : SS a) (hb : SS b) (hab : Agree a b) : joinS (joinS a b) a = joinS a b := by
  rw [join_comm (join_ss ha hb) ha (agree_join ha hb ha.agree hab.symm), ← join_assoc ha ha hb ha.agree hab hab, join_self ha]
end Go.Proofs.YthijiefopcnclaaGreatDoor.Dt
end

namespace Go.Proofs.YthijiefopcnclaaGreatDoor.Dt
open Go Go.RowKit Go.Proofs.YthijiefopcnclaaGreatDoor.Mm

/-- The six cells of a fact lie here. -/
def At6 (W : World) (g o : Nat) (x : Fc) : Prop := W.cell? ⟨g, o, none⟩ = some (.int .i64 x.d) ∧ W.cell? ⟨g, o + 1, none⟩ = some (.int .i64 x.n) ∧ W.cell? ⟨g, o + 2, none⟩ = some (.string x.key) ∧ W.cell? ⟨g, o + 3, none⟩ = some (.int .i64 x.kind) ∧ W.cell? ⟨g, o + 4, none⟩ = some (.string x.item) ∧ W.cell? ⟨g, o + 5, none⟩ = some (.int .i64 x.v)
theorem At6.kept {W W' : World} {g o : Nat} {x : Fc} {row : Option Nat} (h : At6 W g o x) (hg : g < W.heap.size) (k : W.grownBy W' row) (hr : some g ≠ row) : At6 W' g o x := by
  have hb := k.block g hg hr
  obtain ⟨h0, h1, h2, h3, h4, h5⟩ := h
  exact ⟨(World.cell?_of_block (a := ⟨g, o, none⟩) hb).trans h0, (World.cell?_of_block (a := ⟨g, o + 1, none⟩) hb).trans h1, (World.cell?_of_block (a := ⟨g, o + 2, none⟩) hb).trans h2, (World.cell?_of_block (a := ⟨g, o + 3, none⟩) hb).trans h3, (World.cell?_of_block (a := ⟨g, o + 4, none⟩) hb).trans h4, (World.cell?_of_block (a := ⟨g, o + 5, none⟩) hb).trans h5⟩
theorem At6.keep {W W' : World} {g o : Nat} {x : Fc} (h : At6 W g o x) (hg : g < W.heap.size) (k : W.grownBy W' none) : At6 W' g o x := h.kept hg k (by simp)
/-- The slice at A, of n facts, reads as these. -/
def FL (w : World) (A : Option Addr) (n : Nat) (l : List Fc) : Prop :=
  l.length = n ∧ (0 < n → ∃ g o, A = some ⟨g, o, none⟩ ∧ g < w.heap.size ∧ ∀ i x, l[i]? = some x → At6 w g (o + i * 6) x)
theorem FL.keep {w w' : World} {A : Option Addr} {n : Nat} {l : List Fc} (h : FL w A n l) (hg : w.grownBy w' none) : FL w' A n l := by
  refine ⟨h.1, fun hn => ?_⟩
  obtain ⟨g, o, e, hl, hc⟩ := h.2 hn
  exact ⟨g, o, e, Nat.lt_of_lt_of_le hl hg.size, fun i x hx => (hc i x hx).keep hl hg⟩
theorem FL.none (w : World) (A : Option Addr) : FL w A 0 [] := ⟨rfl, fun h => absurd h (by omega)⟩
theorem fl_at6 {w : World} {g o n : Nat} {l : List Fc} (h : FL w (some ⟨g, o, none⟩) n l) {i : Nat} {x : Fc} (hx : l[i]? = some x) : At6 w g (o + i * 6) x := by
  have hi := (List.getElem?_eq_some_iff.1 hx).1
  obtain ⟨g', o', e, _, hc⟩ := h.2 (by have := h.1; omega)
  simp only [Option.some.injEq, Addr.mk.injEq, and_true] at e
  obtain ⟨rfl, rfl⟩ := e
  exact hc i x hx
theorem ftake_more {l : List Fc} {k : Nat} {x : Fc} (h : l[k]? = some x) : l.take (k + 1) = l.take k ++ [x] := by
  rw [List.take_add_one, h]; rfl
/-- The cells of facts. -/
def fv1 (x : Fc) : List Value := [.int .i64 x.d, .int .i64 x.n, .string x.key, .int .i64 x.kind, .string x.item, .int .i64 x.v]
def fv (l : List Fc) : List Value := l.flatMap fv1
theorem fv_cons (r : Fc) (l : List Fc) : fv (r :: l) = fv1 r ++ fv l := rfl
theorem fv_append (a b : List Fc) : fv (a ++ b) = fv a ++ fv b := by unfold fv; rw [List.flatMap_append]
theorem fv_len (l : List Fc) : (fv l).length = l.length * 6 := by
  induction l with
  | nil => rfl
  | cons r l ih => rw [fv_cons, List.length_append, ih, List.length_cons]; simp [fv1]; omega
theorem fv_one (l : List Fc) : ∀ u ∈ fv l, u.oneCell' = true := by
  intro u hu
  unfold fv at hu
  obtain ⟨x, _, hx⟩ := List.mem_flatMap.1 hu
  unfold fv1 at hx
  simp only [List.mem_cons, List.not_mem_nil, or_false] at hx
  rcases hx with rfl | rfl | rfl | rfl | rfl | rfl <;> rfl
theorem fv1_one (x : Fc) : ∀ u ∈ fv1 x, u.oneCell' = true := by
  have h := fv_one [x]
  rwa [show fv [x] = fv1 x from List.append_nil _] at h
theorem fv_at : ∀ (l : List Fc) (i : Nat) (x : Fc), l[i]? = some x → ∀ j, j < 6 → (fv l)[i * 6 + j]? = (fv1 x)[j]?
  | [], i, x, h => by simp at h
  | r :: l, 0, x, h => fun j hj => by
    obtain rfl : r = x := by simpa using h
    rw [fv_cons, List.getElem?_append_left (by simp [fv1]; omega), Nat.zero_mul, Nat.zero_add]
  | r :: l, i + 1, x, h => fun j hj => by
    have ih := fv_at l i x (by simpa using h) j hj
    rw [fv_cons, List.getElem?_append_right (by simp [fv1]; omega)]
    rw [show (i + 1) * 6 + j - (fv1 r).length = i * 6 + j by simp [fv1]; omega, ih]
theorem own_fl {w : World} {B n : Nat} {t : TypeId} {v : Value} {l : List Fc} (h : w.ownsRow B t 6 v n (fv l)) (hn : l.length = n) : ∃ A c, v = .slice A n c ∧ FL w A n l ∧ n ≤ c := by
  have hcells := fun (g : Nat) (hg : v.ownBlock = some g) => World.ownsRow.cells h hg
  rcases h.2 with ⟨rfl, h0⟩ | ⟨g, cap, cur, rfl, hB, hg, hle, _⟩
  · exact ⟨none, 0, by rw [h0], ⟨hn, fun hp => absurd hp (by omega)⟩, by omega⟩
  · refine ⟨_, cap, rfl, ⟨hn, fun _ => ⟨g, 0, rfl, (Array.getElem?_eq_some_iff.1 hg).1, fun i x hx => ?_⟩⟩, hle⟩
    have hat : ∀ j u, (fv l)[j]? = some u → w.cell? ⟨g, 0 + j, none⟩ = some u := fun j u hu => by
      have := hcells g rfl j u hu
      have hadd : (⟨g, 0, none⟩ : Addr).add j = ⟨g, 0 + j, none⟩ := by unfold Addr.add; split <;> simp_all
      rwa [hadd] at this
    have r := fv_at l i x hx
    exact ⟨hat _ _ (r 0 (by decide)), hat _ _ (r 1 (by decide)), hat _ _ (r 2 (by decide)), hat _ _ (r 3 (by decide)), hat _ _ (r 4 (by decide)), hat _ _ (r 5 (by decide))⟩
/-- A fact as a value. -/
def fV (x : Fc) : Value := .agg #[.int .i64 x.d, .int .i64 x.n, .string x.key, .int .i64 x.kind, .string x.item, .int .i64 x.v]
/-- Facts that were told. -/
def Facts (l : List Fc) (w : World) (e : Ending) (w' : World) : Prop := ∃ A c, e = .returned (.slice A l.length c) ∧ FL w' A l.length l ∧ l.length ≤ c ∧ w.grownBy w' none
/-- The two slices of a state read as it. -/
def SL (w : World) (A : Option Addr) (n : Nat) (B : Option Addr) (m : Nat) (s : St) : Prop := RL w A n s.seen ∧ FL w B m s.facts
theorem SL.keep {w w' : World} {A B : Option Addr} {n m : Nat} {s : St} (h : SL w A n B m s) (hg : w.grownBy w' none) : SL w' A n B m s := ⟨h.1.keep hg, h.2.keep hg⟩
end Go.Proofs.YthijiefopcnclaaGreatDoor.Dt

namespace Go.Proofs.YthijiefopcnclaaGreatDoor.Dt
open Go Go.RowKit Go.Proofs.YthijiefopcnclaaGreatDoor.Mm Go.Proofs.YthijiefopcnclaaGreatDoor.Td

/-- Blocks and draws alone. -/
def Gr (w w' : World) : Prop := ∃ q os, w' = Go.Sort.grow (w.drewN q) os
theorem Gr.refl (w : World) : Gr w w := ⟨0, #[], by simp [Go.Sort.grow_empty, World.drewN]⟩
theorem Gr.trans {a b c : World} (h : Gr a b) (k : Gr b c) : Gr a c := by
  obtain ⟨q, os, rfl⟩ := h
  obtain ⟨q', os', rfl⟩ := k
  refine ⟨q + q', os ++ os', ?_⟩
  simp [Go.Sort.grow, World.drewN, Array.append_assoc, Nat.add_assoc]
theorem Gr.alloc {a b : World} (h : Gr a b) (o : Obj) : Gr a (b.alloc o) := h.trans ⟨0, #[o], by rw [Go.Sort.alloc_eq_grow]; simp [World.drewN]⟩
theorem Gr.drewN {a b : World} (h : Gr a b) (n : Nat) : Gr a (b.drewN n) := h.trans ⟨n, #[], by simp [Go.Sort.grow_empty]⟩
theorem Gr.drew {a b : World} (h : Gr a b) : Gr a b.drew := h.drewN 1
theorem Gr.gb {a b : World} (h : Gr a b) : a.grownBy b none := by
  obtain ⟨q, os, rfl⟩ := h
  exact ⟨rfl, rfl, rfl, by simp [World.drewN], fun k hk _ => Go.Sort.heap_grow_old (a.drewN q) os hk⟩

/-- A run as a value. -/
def V (r : Rn) : Value := .agg #[.int .i64 r.d, .int .i64 r.f, .int .i64 r.t]
set_option maxHeartbeats 8000000 in
set_option maxRecDepth 100000 in
theorem stands_any (r : Rn) (w : World) : Calls Tryz.prog 92 #[.agg #[.int .i64 r.d, .int .i64 r.f, .int .i64 r.t]] w fun e w' => e = .returned (.bool (decide (Ok r))) ∧ Gr w w' := by
  go_enter Tryz.func92, Tryz.ntmps92
  by_cases e0 : 0 ≤ r.d
  · have d0 : decide (0 ≤ r.d) = true := decide_eq_true e0
    by_cases e1 : r.d < 8
    · have d1 : decide (r.d < 8) = true := decide_eq_true e1
      by_cases e2 : 1 ≤ r.f
      · have d2 : decide (1 ≤ r.f) = true := decide_eq_true e2
        by_cases e3 : r.f ≤ r.t
        · have d3 : decide (r.f ≤ r.t) = true := decide_eq_true e3
          by_cases e4 : r.t ≤ 4503599627370496
          · have d4 : decide (r.t ≤ 4503599627370496) = true := decide_eq_true e4
            have hE : decide (Ok r) = true := decide_eq_true ⟨e0, e1, e2, e3, e4⟩
            rw [hE]
            clear hE e0 e1 e2 e3 e4
            go_wp2_with fail
            go_ret
            exact ⟨rfl, (Gr.refl w).alloc _⟩
          · have d4 : decide (r.t ≤ 4503599627370496) = false := decide_eq_false e4
            have hE : decide (Ok r) = false := decide_eq_false fun h => e4 h.2.2.2.2
            rw [hE]
            clear hE e0 e1 e2 e3 e4
            go_wp2_with fail
            go_ret
            exact ⟨rfl, (Gr.refl w).alloc _⟩
        · have d3 : decide (r.f ≤ r.t) = false := decide_eq_false e3
          have hE : decide (Ok r) = false := decide_eq_false fun h => e3 h.2.2.2.1
          rw [hE]
          clear hE e0 e1 e2 e3
          go_wp2_with fail
          go_ret
          exact ⟨rfl, (Gr.refl w).alloc _⟩
      · have d2 : decide (1 ≤ r.f) = false := decide_eq_false e2
        have hE : decide (Ok r) = false := decide_eq_false fun h => e2 h.2.2.1
        rw [hE]
        clear hE e0 e1 e2
        go_wp2_with fail
        go_ret
        exact ⟨rfl, (Gr.refl w).alloc _⟩
    · have d1 : decide (r.d < 8) = false := decide_eq_false e1
      have hE : decide (Ok r) = false := decide_eq_false fun h => e1 h.2.1
      rw [hE]
      clear hE e0 e1
      go_wp2_with fail
      go_ret
      exact ⟨rfl, (Gr.refl w).alloc _⟩
  · have d0 : decide (0 ≤ r.d) = false := decide_eq_false e0
    have hE : decide (Ok r) = false := decide_eq_false fun h => e0 h.1
    rw [hE]
    clear hE e0
    go_wp2_with fail
    go_ret
    exact ⟨rfl, (Gr.refl w).alloc _⟩
set_option maxHeartbeats 8000000 in
set_option maxRecDepth 100000 in
theorem ahead_any (r s : Rn) (w : World) : Calls Tryz.prog 107 #[.agg #[.int .i64 r.d, .int .i64 r.f, .int .i64 r.t], .agg #[.int .i64 s.d, .int .i64 s.f, .int .i64 s.t]] w fun e w' => e = .returned (.bool (decide (Ahd r s))) ∧ Gr w w' := by
  go_enter Tryz.func107, Tryz.ntmps107
  by_cases e0 : r.d < s.d
  · have d0 : decide (r.d < s.d) = true := decide_eq_true e0
    have hE : decide (Ahd r s) = true := decide_eq_true (.inl e0)
    rw [hE]
    clear hE e0
    go_wp2_with fail
    go_ret
    exact ⟨rfl, (((Gr.refl w).alloc _).alloc _)⟩
  · have d0 : decide (r.d < s.d) = false := decide_eq_false e0
    by_cases e1 : r.d = s.d
    · have d1 : (r.d == s.d) = true := by rw [e1]; simp
      by_cases e2 : r.t < s.f
      · have d2 : decide (r.t < s.f) = true := decide_eq_true e2
        have hE : decide (Ahd r s) = true := decide_eq_true (.inr ⟨e1, e2⟩)
        rw [hE]
        clear hE e0 e1 e2
        go_wp2_with fail
        go_ret
        exact ⟨rfl, (((Gr.refl w).alloc _).alloc _)⟩
      · have d2 : decide (r.t < s.f) = false := decide_eq_false e2
        have hE : decide (Ahd r s) = false := decide_eq_false fun h => h.elim e0 fun h => e2 h.2
        rw [hE]
        clear hE e0 e1 e2
        go_wp2_with fail
        go_ret
        exact ⟨rfl, (((Gr.refl w).alloc _).alloc _)⟩
    · have d1 : (r.d == s.d) = false := by rw [beq_eq_false_iff_ne]; exact e1
      have hE : decide (Ahd r s) = false := decide_eq_false fun h => h.elim e0 fun h => e1 h.1
      rw [hE]
      clear hE e0 e1
      go_wp2_with fail
      go_ret
      exact ⟨rfl, (((Gr.refl w).alloc _).alloc _)⟩
set_option maxHeartbeats 8000000 in
set_option maxRecDepth 100000 in
theorem apart_any (r s : Rn) (w : World) (hr : Ok r) (hs : Ok s) : Calls Tryz.prog 93 #[.agg #[.int .i64 r.d, .int .i64 r.f, .int .i64 r.t], .agg #[.int .i64 s.d, .int .i64 s.f, .int .i64 s.t]] w fun e w' => e = .returned (.bool (decide (Bef r s))) ∧ Gr w w' := by
  have hw : IntKind.i64.wrap (s.f - r.t) = s.f - r.t := by obtain ⟨_, _, _, _, _⟩ := hr; obtain ⟨_, _, _, _, _⟩ := hs; rw [IntKind.wrap_i64]; omega
  have b1 : -4503599627370497 ≤ s.f - r.t := by obtain ⟨_, _, _, _, _⟩ := hr; obtain ⟨_, _, _, _, _⟩ := hs; omega
  have b2 : s.f - r.t ≤ 4503599627370497 := by obtain ⟨_, _, _, _, _⟩ := hr; obtain ⟨_, _, _, _, _⟩ := hs; omega
  clear hr hs
  go_enter Tryz.func93, Tryz.ntmps93
  by_cases e0 : r.d < s.d
  · have d0 : decide (r.d < s.d) = true := decide_eq_true e0
    have hE : decide (Bef r s) = true := decide_eq_true (.inl e0)
    rw [hE]
    clear hE e0
    go_wp2_with fail
    go_ret
    exact ⟨rfl, (((Gr.refl w).alloc _).alloc _)⟩
  · have d0 : decide (r.d < s.d) = false := decide_eq_false e0
    by_cases e1 : r.d = s.d
    · have d1 : (r.d == s.d) = true := by rw [e1]; simp
      by_cases e2 : r.t + 1 < s.f
      · have d2 : decide (1 < s.f - r.t) = true := decide_eq_true (by omega)
        have hE : decide (Bef r s) = true := decide_eq_true (.inr ⟨e1, e2⟩)
        rw [hE]
        clear hE e0 e1 e2
        go_wp2_with fail
        go_ret
        exact ⟨rfl, (((Gr.refl w).alloc _).alloc _)⟩
      · have d2 : decide (1 < s.f - r.t) = false := decide_eq_false (by omega)
        have hE : decide (Bef r s) = false := decide_eq_false fun h => h.elim e0 fun h => e2 h.2
        rw [hE]
        clear hE e0 e1 e2
        go_wp2_with fail
        go_ret
        exact ⟨rfl, (((Gr.refl w).alloc _).alloc _)⟩
    · have d1 : (r.d == s.d) = false := by rw [beq_eq_false_iff_ne]; exact e1
      have hE : decide (Bef r s) = false := decide_eq_false fun h => h.elim e0 fun h => e1 h.1
      rw [hE]
      clear hE e0 e1
      go_wp2_with fail
      go_ret
      exact ⟨rfl, (((Gr.refl w).alloc _).alloc _)⟩
set_option maxHeartbeats 8000000 in
set_option maxRecDepth 100000 in
theorem single_any (d n : Int) (w : World) : Calls Tryz.prog 95 #[.agg #[.int .i64 d, .int .i64 n]] w fun e w' => e = .returned (.agg #[.int .i64 d, .int .i64 n, .int .i64 n]) ∧ Gr w w' := by
  go_enter Tryz.func95, Tryz.ntmps95
  go_wp2_with fail
  have hrow : Row ((w.alloc (.cells #[.int .i64 d, .int .i64 n] 44)).alloc (.cells #[.int .i64 d, .int .i64 n, .int .i64 n] 50)) (w.heap.size + 1) 50 #[.int .i64 d, .int .i64 n, .int .i64 n] := by
    have h := Row.new (w.alloc (.cells #[.int .i64 d, .int .i64 n] 44)) 50 #[.int .i64 d, .int .i64 n, .int .i64 n]
    rwa [World.size_alloc] at h
  refine bodyPost_ret (v := .agg #[.int .i64 d, .int .i64 n, .int .i64 n]) (by simp [results, Tryz.results95, go_sem, hrow.at_ (i := 0) rfl, hrow.at_ (i := 1) rfl, hrow.at_ (i := 2) rfl]) rfl ?_
  exact ⟨rfl, ((Gr.refl w).alloc _).alloc _⟩
end Go.Proofs.YthijiefopcnclaaGreatDoor.Dt

namespace Go.Proofs.YthijiefopcnclaaGreatDoor.Dt
open Go Go.RowKit Go.Proofs.YthijiefopcnclaaGreatDoor.Mm Go.Proofs.YthijiefopcnclaaGreatDoor.Td

def cmpI (x y : Int) : Int := if x < y then -1 else if y < x then 1 else 0
set_option maxHeartbeats 4000000 in
theorem nan_any (x : Int) (w : World) : Calls Tryz.prog 108 #[.int .i64 x] w fun e w' => e = .returned (.bool false) ∧ w' = w := by
  have h : (x != x) = false := by simp
  go_enter Tryz.func108, Tryz.ntmps108
  go_wp2_with fail
  go_ret
  exact ⟨rfl, rfl⟩
set_option maxHeartbeats 4000000 in
set_option maxRecDepth 100000 in
theorem compare_any (x y : Int) (w : World) : Calls Tryz.prog 97 #[.int .i64 x, .int .i64 y] w fun e w' => e = .returned (.int .i64 (cmpI x y)) ∧ w' = w := by
  have hx := fun W => nan_any x W
  have hy := fun W => nan_any y W
  go_enter Tryz.func97, Tryz.ntmps97
  by_cases h1 : x < y
  · have d1 : decide (x < y) = true := decide_eq_true h1
    have hE : cmpI x y = -1 := if_pos h1
    rw [hE]
    clear hE h1
    go_wp2_with (first | (refine (hx _).mono ?_; rintro e w1 ⟨rfl, rfl⟩) | (refine (hy _).mono ?_; rintro e w1 ⟨rfl, rfl⟩))
    go_ret
    exact ⟨rfl, rfl⟩
  · have d1 : decide (x < y) = false := decide_eq_false h1
    by_cases h2 : y < x
    · have d2 : decide (y < x) = true := decide_eq_true h2
      have hE : cmpI x y = 1 := by unfold cmpI; rw [if_neg h1, if_pos h2]
      rw [hE]
      clear hE h1 h2
      go_wp2_with (first | (refine (hx _).mono ?_; rintro e w1 ⟨rfl, rfl⟩) | (refine (hy _).mono ?_; rintro e w1 ⟨rfl, rfl⟩))
      go_ret
      exact ⟨rfl, rfl⟩
    · have d2 : decide (y < x) = false := decide_eq_false h2
      have hE : cmpI x y = 0 := by unfold cmpI; rw [if_neg h1, if_neg h2]
      rw [hE]
      clear hE h1 h2
      go_wp2_with (first | (refine (hx _).mono ?_; rintro e w1 ⟨rfl, rfl⟩) | (refine (hy _).mono ?_; rintro e w1 ⟨rfl, rfl⟩))
      go_ret
      exact ⟨rfl, rfl⟩
def orI (x y : Int) : Int := if x = 0 then y else x
set_option maxHeartbeats 4000000 in
set_option maxRecDepth 100000 in
theorem or_any (g : Nat) (x y : Int) (w : World) (hr : Row w g 3 #[.int .i64 x, .int .i64 y]) : Calls Tryz.prog 96 #[.slice (some ⟨g, 0, none⟩) 2 2] w fun e w' => e = .returned (.int .i64 (orI x y)) ∧ w' = w := by
  have c0 := hr.at_ (i := 0) rfl
  have c1 := hr.at_ (i := 1) rfl
  clear hr
  go_enter Tryz.func96, Tryz.ntmps96
  go_wp2_with fail
  go_loopw [8] (fun i wr => ∃ k : Nat, k ≤ 2 ∧ i = .int .i64 k ∧ Hid (0 < k → x = 0) ∧ Hid (1 < k → y = 0) ∧ w = wr) (fun i _ => 2 - (intOf i).toNat)
  case atStart => exact ⟨0, by omega, rfl, fun h => absurd h (by omega), fun h => absurd h (by omega), rfl⟩
  case round =>
    obtain ⟨k, hk, rfl, H0, H1, rfl⟩ := hrel
    have hk3 : k = 0 ∨ k = 1 ∨ k = 2 := by omega
    rcases hk3 with rfl | rfl | rfl
    · by_cases hx : x = 0
      · have hn : (x != 0) = false := by rw [hx]; rfl
        have Hx := Lib.hid hx
        clear hx
        go_wp2_with fail
        go_roundw
        case rel => exact ⟨1, by omega, by go_num, fun _ => Hx.out, fun h => absurd h (by omega), (by first | rfl | trivial)⟩
        case measure => simp [intOf]
      · have hn : (x != 0) = true := by simp [hx]
        have hE : orI x y = x := if_neg hx
        have HE := Lib.hid hE
        clear hE hx
        go_wp2_with fail
        go_ret
        exact ⟨by rw [HE.out]; rfl, rfl⟩
    · have hx := H0.out (by omega)
      subst hx
      have hE : orI 0 y = y := if_pos rfl
      have HE := Lib.hid hE
      clear hE
      by_cases hy : y = 0
      · have hn : (y != 0) = false := by rw [hy]; rfl
        have Hy := Lib.hid hy
        clear hy
        go_wp2_with fail
        go_roundw
        case rel => exact ⟨2, by omega, by go_num, fun _ => (by first | rfl | trivial), fun _ => Hy.out, (by first | rfl | trivial)⟩
        case measure => simp [intOf]
      · have hn : (y != 0) = true := by simp [hy]
        clear hy
        go_wp2_with fail
        go_ret
        exact ⟨by rw [HE.out]; rfl, rfl⟩
    · have hx := H0.out (by omega)
      have hy := H1.out (by omega)
      subst hx
      subst hy
      go_wp2_with fail
      go_ret
      exact ⟨rfl, rfl⟩
def twoV (x y : Int) : Td.Spec := fun W v => ∃ g, v = .slice (some ⟨g, 0, none⟩) 2 2 ∧ Row W g 3 #[.int .i64 x, .int .i64 y]
theorem twoV_stays {x y : Int} : Stays Gr (twoV x y) := fun _ _ _ h ⟨g, e, hr⟩ => ⟨g, e, hr.kept h.gb (by simp)⟩
end Go.Proofs.YthijiefopcnclaaGreatDoor.Dt

namespace Go.Proofs.YthijiefopcnclaaGreatDoor.Dt
open Go Go.RowKit Go.Proofs.YthijiefopcnclaaGreatDoor.Mm

theorem runT_fields : Tryz.prog.underlying 50 = some (.struct (Tryz.prog.fieldsOf 50)) := by kernel_rfl
theorem runT_stood : Tryz.prog.stoodInHeld 50 = false := by kernel_rfl
theorem runT_guard : Tryz.prog.eqGuardType Tryz.prog.depth 50 = false := by kernel_rfl
def eqR (x y : Rn) : Bool := x.d == y.d && (x.f == y.f && x.t == y.t)
theorem eqR_iff (x y : Rn) : eqR x y = true ↔ x = y := by
  unfold eqR
  rw [Bool.and_eq_true, Bool.and_eq_true, beq_iff_eq, beq_iff_eq, beq_iff_eq]
  exact ⟨fun ⟨h1, h2, h3⟩ => ext h1 h2 h3, fun h => by subst h; exact ⟨rfl, rfl, rfl⟩⟩
theorem runT_eq (x y : Rn) (W : World) : (Op.equalIn 10000 50 (.agg #[.int .i64 x.d, .int .i64 x.f, .int .i64 x.t]) (.agg #[.int .i64 y.d, .int .i64 y.f, .int .i64 y.t])).run Tryz.prog W = .ok (eqR x y) W := by
  rw [run_equalIn_struct W 9999 _ _ _ runT_fields runT_stood]
  have hf : (Tryz.prog.fieldsOf 50).toList.map (fun f => (f.name == "_", f.type, f.offset)) = [(false, 3, 0), (false, 3, 1), (false, 3, 2)] := by kernel_rfl
  generalize (Tryz.prog.fieldsOf 50).toList = fs at hf
  obtain ⟨f0, f1, f2, rfl⟩ : ∃ f0 f1 f2, fs = [f0, f1, f2] := by
    rcases fs with _ | ⟨f0, _ | ⟨f1, _ | ⟨f2, _ | ⟨f3, r⟩⟩⟩⟩
    · simp at hf
    · simp at hf
    · simp at hf
    · exact ⟨f0, f1, f2, rfl⟩
    · simp at hf
  simp only [List.map_cons, List.map_nil, List.cons.injEq, Prod.mk.injEq, and_true, beq_eq_false_iff_ne] at hf
  obtain ⟨⟨n0, t0, o0⟩, ⟨n1, t1, o1⟩, n2, t2, o2⟩ := hf
  have hp : Tryz.prog.plainKey 3 = true := by kernel_rfl
  have p0 : ∀ (a b c : Value), (part 3 #[a, b, c] 0).run Tryz.prog W = .ok a W := fun a b c => run_part_plain W hp rfl
  have p1 : ∀ (a b c : Value), (part 3 #[a, b, c] 1).run Tryz.prog W = .ok b W := fun a b c => run_part_plain W hp rfl
  have p2 : ∀ (a b c : Value), (part 3 #[a, b, c] 2).run Tryz.prog W = .ok c W := fun a b c => run_part_plain W hp rfl
  have q : ∀ a b : Int, (Op.equalIn 9999 3 (.int .i64 a) (.int .i64 b)).run Tryz.prog W = .ok (a == b) W := fun a b => run_equalIn_int W 9998 3 .i64 .i64 a b Tryz.underlying3
  unfold eqR
  cases hd : (x.d == y.d) <;> cases hf2 : (x.f == y.f) <;> cases ht : (x.t == y.t) <;>
    simp [Op.eqFields, n0, t0, o0, n1, t1, o1, n2, t2, o2, p0, p1, p2, q, hd, hf2, ht]
theorem runT_neq (x y : Rn) (W : World) : (binOp .neq 50 (.agg #[.int .i64 x.d, .int .i64 x.f, .int .i64 x.t]) (.agg #[.int .i64 y.d, .int .i64 y.f, .int .i64 y.t])).run Tryz.prog W = .ok (.bool (!eqR x y)) W := by
  rw [run_neq_struct, runT_eq]; rfl
end Go.Proofs.YthijiefopcnclaaGreatDoor.Dt

namespace Go.Proofs.YthijiefopcnclaaGreatDoor.Dt
open Go Go.RowKit Go.Proofs.YthijiefopcnclaaGreatDoor.Mm

theorem dotT_fields : Tryz.prog.underlying 44 = some (.struct (Tryz.prog.fieldsOf 44)) := by kernel_rfl
theorem dotT_stood : Tryz.prog.stoodInHeld 44 = false := by kernel_rfl
theorem dotT_guard : Tryz.prog.eqGuardType Tryz.prog.depth 44 = false := by kernel_rfl
def eqD (d n e m : Int) : Bool := d == e && n == m
theorem eqD_iff (d n e m : Int) : eqD d n e m = true ↔ d = e ∧ n = m := by unfold eqD; rw [Bool.and_eq_true, beq_iff_eq, beq_iff_eq]
theorem dotT_eq (k : Nat) (d n e m : Int) (W : World) : (Op.equalIn (k + 2) 44 (.agg #[.int .i64 d, .int .i64 n]) (.agg #[.int .i64 e, .int .i64 m])).run Tryz.prog W = .ok (eqD d n e m) W := by
  rw [run_equalIn_struct W (k + 1) _ _ _ dotT_fields dotT_stood]
  have hf : (Tryz.prog.fieldsOf 44).toList.map (fun f => (f.name == "_", f.type, f.offset)) = [(false, 3, 0), (false, 3, 1)] := by kernel_rfl
  generalize (Tryz.prog.fieldsOf 44).toList = fs at hf
  obtain ⟨f0, f1, rfl⟩ : ∃ f0 f1, fs = [f0, f1] := by
    rcases fs with _ | ⟨f0, _ | ⟨f1, _ | ⟨f2, r⟩⟩⟩
    · simp at hf
    · simp at hf
    · exact ⟨f0, f1, rfl⟩
    · simp at hf
  simp only [List.map_cons, List.map_nil, List.cons.injEq, Prod.mk.injEq, and_true, beq_eq_false_iff_ne] at hf
  obtain ⟨⟨n0, t0, o0⟩, n1, t1, o1⟩ := hf
  have hp : Tryz.prog.plainKey 3 = true := by kernel_rfl
  have p0 : ∀ (a b : Value), (part 3 #[a, b] 0).run Tryz.prog W = .ok a W := fun a b => run_part_plain W hp rfl
  have p1 : ∀ (a b : Value), (part 3 #[a, b] 1).run Tryz.prog W = .ok b W := fun a b => run_part_plain W hp rfl
  have q : ∀ a b : Int, (Op.equalIn (k + 1) 3 (.int .i64 a) (.int .i64 b)).run Tryz.prog W = .ok (a == b) W := fun a b => run_equalIn_int W k 3 .i64 .i64 a b Tryz.underlying3
  unfold eqD
  cases h1 : (d == e) <;> cases h2 : (n == m) <;>
    simp [Op.eqFields, n0, t0, o0, n1, t1, o1, p0, p1, q, h1, h2]
theorem dotT_eql (d n e m : Int) (W : World) : (binOp .eql 44 (.agg #[.int .i64 d, .int .i64 n]) (.agg #[.int .i64 e, .int .i64 m])).run Tryz.prog W = .ok (.bool (eqD d n e m)) W := by
  rw [run_eql_struct, dotT_eq]; rfl

theorem factT_fields : Tryz.prog.underlying 46 = some (.struct (Tryz.prog.fieldsOf 46)) := by kernel_rfl
theorem factT_stood : Tryz.prog.stoodInHeld 46 = false := by kernel_rfl
theorem factT_guard : Tryz.prog.eqGuardType Tryz.prog.depth 46 = false := by kernel_rfl
def eqF (x y : Fc) : Bool := eqD x.d x.n y.d y.n && (x.key.toList == y.key.toList && (x.kind == y.kind && (x.item.toList == y.item.toList && x.v == y.v)))
theorem toList_iff (a b : ByteArray) : (a.toList == b.toList) = true ↔ a = b := by
  rw [ByteArray.toList_eq, ByteArray.toList_eq, beq_iff_eq]
  exact ⟨fun h => ByteArray.ext (Array.ext' h), fun h => by rw [h]⟩
theorem eqF_iff (x y : Fc) : eqF x y = true ↔ x = y := by
  unfold eqF
  rw [Bool.and_eq_true, Bool.and_eq_true, Bool.and_eq_true, Bool.and_eq_true, eqD_iff, toList_iff, toList_iff, beq_iff_eq, beq_iff_eq]
  exact ⟨fun ⟨⟨h1, h2⟩, h3, h4, h5, h6⟩ => Fc.same h1 h2 h3 h4 h5 h6, fun h => by subst h; exact ⟨⟨rfl, rfl⟩, rfl, rfl, rfl, rfl⟩⟩
theorem factT_eq (x y : Fc) (W : World) : (Op.equalIn 10000 46 (fV x) (fV y)).run Tryz.prog W = .ok (eqF x y) W := by
  unfold fV
  rw [run_equalIn_struct W 9999 _ _ _ factT_fields factT_stood]
  have hf : (Tryz.prog.fieldsOf 46).toList.map (fun f => (f.name == "_", f.type, f.offset)) = [(false, 44, 0), (false, 9, 2), (false, 3, 3), (false, 9, 4), (false, 3, 5)] := by kernel_rfl
  generalize (Tryz.prog.fieldsOf 46).toList = fs at hf
  obtain ⟨f0, f1, f2, f3, f4, rfl⟩ : ∃ f0 f1 f2 f3 f4, fs = [f0, f1, f2, f3, f4] := by
    rcases fs with _ | ⟨f0, _ | ⟨f1, _ | ⟨f2, _ | ⟨f3, _ | ⟨f4, _ | ⟨f5, r⟩⟩⟩⟩⟩⟩
    · simp at hf
    · simp at hf
    · simp at hf
    · simp at hf
    · simp at hf
    · exact ⟨f0, f1, f2, f3, f4, rfl⟩
    · simp at hf
  simp only [List.map_cons, List.map_nil, List.cons.injEq, Prod.mk.injEq, and_true, beq_eq_false_iff_ne] at hf
  obtain ⟨⟨n0, t0, o0⟩, ⟨n1, t1, o1⟩, ⟨n2, t2, o2⟩, ⟨n3, t3, o3⟩, n4, t4, o4⟩ := hf
  have hp : Tryz.prog.plainKey 3 = true := by kernel_rfl
  have hs : Tryz.prog.plainKey 9 = true := by kernel_rfl
  have p0 : ∀ (z : Fc), (part 44 #[.int .i64 z.d, .int .i64 z.n, .string z.key, .int .i64 z.kind, .string z.item, .int .i64 z.v] 0).run Tryz.prog W = .ok (.agg #[.int .i64 z.d, .int .i64 z.n]) W := fun z => by
    simp [part, Tryz.isAgg44, Tryz.sizeOf44]
  have p1 : ∀ (a b c d e f : Value), (part 9 #[a, b, c, d, e, f] 2).run Tryz.prog W = .ok c W := fun a b c d e f => run_part_plain W hs rfl
  have p2 : ∀ (a b c d e f : Value), (part 3 #[a, b, c, d, e, f] 3).run Tryz.prog W = .ok d W := fun a b c d e f => run_part_plain W hp rfl
  have p3 : ∀ (a b c d e f : Value), (part 9 #[a, b, c, d, e, f] 4).run Tryz.prog W = .ok e W := fun a b c d e f => run_part_plain W hs rfl
  have p4 : ∀ (a b c d e f : Value), (part 3 #[a, b, c, d, e, f] 5).run Tryz.prog W = .ok f W := fun a b c d e f => run_part_plain W hp rfl
  have q0 : ∀ d n e m : Int, (Op.equalIn 9999 44 (.agg #[.int .i64 d, .int .i64 n]) (.agg #[.int .i64 e, .int .i64 m])).run Tryz.prog W = .ok (eqD d n e m) W := fun d n e m => dotT_eq 9997 d n e m W
  have q : ∀ a b : Int, (Op.equalIn 9999 3 (.int .i64 a) (.int .i64 b)).run Tryz.prog W = .ok (a == b) W := fun a b => run_equalIn_int W 9998 3 .i64 .i64 a b Tryz.underlying3
  have qs : ∀ a b : ByteArray, (Op.equalIn 9999 9 (.string a) (.string b)).run Tryz.prog W = .ok (a.toList == b.toList) W := fun a b => run_equalIn_string W 9998 9 a b Tryz.underlying9
  unfold eqF
  cases h1 : eqD x.d x.n y.d y.n <;> cases h2 : (x.key.toList == y.key.toList) <;> cases h3 : (x.kind == y.kind) <;> cases h4 : (x.item.toList == y.item.toList) <;> cases h5 : (x.v == y.v) <;>
    simp only [Op.eqFields, n0, t0, o0, n1, t1, o1, n2, t2, o2, n3, t3, o3, n4, t4, o4, p0, p1, p2, p3, p4, q0, q, qs, h1, h2, h3, h4, h5, Sem.run_bind, Sem.run_pure, Result.andThen_ok, ne_eq, not_false_eq_true, if_true, if_false, Bool.not_true, Bool.not_false, Bool.false_eq_true, Bool.true_and, Bool.false_and, Bool.and_self]
theorem factT_eql (x y : Fc) (W : World) : (binOp .eql 46 (.agg #[.int .i64 x.d, .int .i64 x.n, .string x.key, .int .i64 x.kind, .string x.item, .int .i64 x.v]) (.agg #[.int .i64 y.d, .int .i64 y.n, .string y.key, .int .i64 y.kind, .string y.item, .int .i64 y.v])).run Tryz.prog W = .ok (.bool (eqF x y)) W := by
  have h := factT_eq x y W
  unfold fV at h
  rw [run_eql_struct, h]; rfl
theorem factT_neq (x y : Fc) (W : World) : (binOp .neq 46 (.agg #[.int .i64 x.d, .int .i64 x.n, .string x.key, .int .i64 x.kind, .string x.item, .int .i64 x.v]) (.agg #[.int .i64 y.d, .int .i64 y.n, .string y.key, .int .i64 y.kind, .string y.item, .int .i64 y.v])).run Tryz.prog W = .ok (.bool (!eqF x y)) W := by
  have h := factT_eq x y W
  unfold fV at h
  rw [run_neq_struct, h]; rfl
end Go.Proofs.YthijiefopcnclaaGreatDoor.Dt

namespace Go.Proofs.YthijiefopcnclaaGreatDoor.Dt
open Go Go.RowKit Go.Proofs.YthijiefopcnclaaGreatDoor.Mm Go.Proofs.YthijiefopcnclaaGreatDoor.Td

theorem str_eq {a b : ByteArray} (h : a = b) : (a.toList == b.toList) = true := by rw [h]; exact beq_self_eq_true _
theorem str_ne {a b : ByteArray} (h : a ≠ b) : (a.toList == b.toList) = false := by
  rw [ByteArray.toList_eq, ByteArray.toList_eq, beq_eq_false_iff_ne]
  exact fun h2 => h (ByteArray.ext (Array.ext' h2))
theorem str_none {a : ByteArray} (h : a.size = 0) : (a.toList == []) = true := by
  rw [ByteArray.toList_eq, beq_iff_eq]
  apply List.eq_nil_of_length_eq_zero
  simpa using h
theorem str_some {a : ByteArray} (h : a.size ≠ 0) : (a.toList == []) = false := by
  rw [ByteArray.toList_eq, beq_eq_false_iff_ne]
  intro h2
  apply h
  have h3 : a.data.toList.length = 0 := by rw [h2]; rfl
  simpa using h3
/-- What is told, as a Boolean of one's own. -/
def BoolIs (p : Prop) (w : World) (e : Ending) (w' : World) : Prop := (∃ q, e = .returned (.bool q) ∧ (q = true ↔ p)) ∧ w.grownBy w' none
theorem BoolIs.yes {p : Prop} {w w' : World} {e : Ending} (h : BoolIs p w e w') (hp : p) : e = .returned (.bool true) ∧ w.grownBy w' none := by
  obtain ⟨⟨q, rfl, hq⟩, hg⟩ := h
  rw [hq.2 hp]; exact ⟨rfl, hg⟩
theorem BoolIs.no {p : Prop} {w w' : World} {e : Ending} (h : BoolIs p w e w') (hp : ¬ p) : e = .returned (.bool false) ∧ w.grownBy w' none := by
  obtain ⟨⟨q, rfl, hq⟩, hg⟩ := h
  have : q = false := by cases q with
    | false => rfl
    | true => exact absurd (hq.1 rfl) hp
  rw [this]; exact ⟨rfl, hg⟩

set_option maxHeartbeats 8000000 in
set_option maxRecDepth 100000 in
theorem pRight_any (x : Fc) (w : World) : Calls Tryz.prog 74 #[.agg #[.int .i64 x.d, .int .i64 x.n, .string x.key, .int .i64 x.kind, .string x.item, .int .i64 x.v]] w fun e w' => e = .returned (.bool (decide (RightF x))) ∧ w.grownBy w' none := by
  by_cases hk : x.key.size ≤ 40
  · have k1 : decide (40 < x.key.size) = false := decide_eq_false (by omega)
    have k2 : decide ((40 : Int) < (x.key.size : Int)) = false := decide_eq_false (by omega)
    by_cases h1 : x.kind = 1
    · have q1 : (x.kind == 1) = true := by rw [h1]; rfl
      by_cases hi : x.item.size ≤ 200
      · have i1 : decide (x.item.size ≤ 200) = true := decide_eq_true hi
        have i2 : decide ((x.item.size : Int) ≤ 200) = true := decide_eq_true (by omega)
        by_cases hv : x.v = 0
        · have v1 : (x.v == 0) = true := by rw [hv]; rfl
          have HE : Hid (decide (RightF x) = true) := by show _ = _; exact decide_eq_true (by unfold RightF; omega)
          rw [HE.out]
          clear hk hi hv h1
          go_enter Tryz.func74, Tryz.ntmps74
          go_wp2_with fail
          go_ret
          exact ⟨rfl, gb_alloc (gb_refl _ _) _⟩
        · have v1 : (x.v == 0) = false := by rw [beq_eq_false_iff_ne]; exact hv
          have HE : Hid (decide (RightF x) = false) := by show _ = _; exact decide_eq_false (by unfold RightF; omega)
          rw [HE.out]
          clear hk hi hv h1
          go_enter Tryz.func74, Tryz.ntmps74
          go_wp2_with fail
          go_ret
          exact ⟨rfl, gb_alloc (gb_refl _ _) _⟩
      · have i1 : decide (x.item.size ≤ 200) = false := decide_eq_false hi
        have i2 : decide ((x.item.size : Int) ≤ 200) = false := decide_eq_false (by omega)
        have HE : Hid (decide (RightF x) = false) := by show _ = _; exact decide_eq_false (by unfold RightF; omega)
        rw [HE.out]
        clear hk hi h1
        go_enter Tryz.func74, Tryz.ntmps74
        go_wp2_with fail
        go_ret
        exact ⟨rfl, gb_alloc (gb_refl _ _) _⟩
    · have q1 : (x.kind == 1) = false := by rw [beq_eq_false_iff_ne]; exact h1
      by_cases h2 : x.kind = 2
      · have q2 : (x.kind == 2) = true := by rw [h2]; rfl
        by_cases hi : x.item.size ≤ 200
        · have i1 : decide (x.item.size ≤ 200) = true := decide_eq_true hi
          have i2 : decide ((x.item.size : Int) ≤ 200) = true := decide_eq_true (by omega)
          by_cases hv : x.v = 0
          · have v1 : (x.v == 0) = true := by rw [hv]; rfl
            have HE : Hid (decide (RightF x) = true) := by show _ = _; exact decide_eq_true (by unfold RightF; omega)
            rw [HE.out]
            clear hk hi hv h1 h2
            go_enter Tryz.func74, Tryz.ntmps74
            go_wp2_with fail
            go_ret
            exact ⟨rfl, gb_alloc (gb_refl _ _) _⟩
          · have v1 : (x.v == 0) = false := by rw [beq_eq_false_iff_ne]; exact hv
            have HE : Hid (decide (RightF x) = false) := by show _ = _; exact decide_eq_false (by unfold RightF; omega)
            rw [HE.out]
            clear hk hi hv h1 h2
            go_enter Tryz.func74, Tryz.ntmps74
            go_wp2_with fail
            go_ret
            exact ⟨rfl, gb_alloc (gb_refl _ _) _⟩
        · have i1 : decide (x.item.size ≤ 200) = false := decide_eq_false hi
          have i2 : decide ((x.item.size : Int) ≤ 200) = false := decide_eq_false (by omega)
          have HE : Hid (decide (RightF x) = false) := by show _ = _; exact decide_eq_false (by unfold RightF; omega)
          rw [HE.out]
          clear hk hi h1 h2
          go_enter Tryz.func74, Tryz.ntmps74
          go_wp2_with fail
          go_ret
          exact ⟨rfl, gb_alloc (gb_refl _ _) _⟩
      · have q2 : (x.kind == 2) = false := by rw [beq_eq_false_iff_ne]; exact h2
        by_cases h3 : x.kind = 3
        · have q3 : (x.kind == 3) = true := by rw [h3]; rfl
          by_cases hi : x.item.size = 0
          · have i1 := str_none hi
            by_cases hl : -1099511627776 ≤ x.v
            · have l1 : decide (-1099511627776 ≤ x.v) = true := decide_eq_true hl
              by_cases hu : x.v ≤ 1099511627776
              · have u1 : decide (x.v ≤ 1099511627776) = true := decide_eq_true hu
                have HE : Hid (decide (RightF x) = true) := by show _ = _; exact decide_eq_true (by unfold RightF; omega)
                rw [HE.out]
                clear hk h1 h2 h3 hi hl hu
                go_enter Tryz.func74, Tryz.ntmps74
                go_wp2_with fail
                go_ret
                exact ⟨rfl, gb_alloc (gb_refl _ _) _⟩
              · have u1 : decide (x.v ≤ 1099511627776) = false := decide_eq_false hu
                have HE : Hid (decide (RightF x) = false) := by show _ = _; exact decide_eq_false (by unfold RightF; omega)
                rw [HE.out]
                clear hk h1 h2 h3 hi hl hu
                go_enter Tryz.func74, Tryz.ntmps74
                go_wp2_with fail
                go_ret
                exact ⟨rfl, gb_alloc (gb_refl _ _) _⟩
            · have l1 : decide (-1099511627776 ≤ x.v) = false := decide_eq_false hl
              have HE : Hid (decide (RightF x) = false) := by show _ = _; exact decide_eq_false (by unfold RightF; omega)
              rw [HE.out]
              clear hk h1 h2 h3 hi hl
              go_enter Tryz.func74, Tryz.ntmps74
              go_wp2_with fail
              go_ret
              exact ⟨rfl, gb_alloc (gb_refl _ _) _⟩
          · have i1 := str_some hi
            have HE : Hid (decide (RightF x) = false) := by show _ = _; exact decide_eq_false (by unfold RightF; omega)
            rw [HE.out]
            clear hk h1 h2 h3 hi
            go_enter Tryz.func74, Tryz.ntmps74
            go_wp2_with fail
            go_ret
            exact ⟨rfl, gb_alloc (gb_refl _ _) _⟩
        · have q3 : (x.kind == 3) = false := by rw [beq_eq_false_iff_ne]; exact h3
          have HE : Hid (decide (RightF x) = false) := by show _ = _; exact decide_eq_false (by unfold RightF; omega)
          rw [HE.out]
          clear hk h1 h2 h3
          go_enter Tryz.func74, Tryz.ntmps74
          go_wp2_with fail
          go_ret
          exact ⟨rfl, gb_alloc (gb_refl _ _) _⟩
  · have k1 : decide (40 < x.key.size) = true := decide_eq_true (by omega)
    have k2 : decide ((40 : Int) < (x.key.size : Int)) = true := decide_eq_true (by omega)
    have HE : Hid (decide (RightF x) = false) := by show _ = _; exact decide_eq_false (by unfold RightF; omega)
    rw [HE.out]
    clear hk
    go_enter Tryz.func74, Tryz.ntmps74
    go_wp2_with fail
    go_ret
    exact ⟨rfl, gb_alloc (gb_refl _ _) _⟩

set_option maxHeartbeats 8000000 in
set_option maxRecDepth 100000 in
theorem refRight_any (x : Fc) (w : World) : Calls Tryz.prog 39 #[.agg #[.int .i64 x.d, .int .i64 x.n, .string x.key, .int .i64 x.kind, .string x.item, .int .i64 x.v]] w fun e w' => e = .returned (.bool (decide (RightF x))) ∧ w.grownBy w' none := by
  by_cases hk : x.key.size ≤ 40
  · have k1 : decide (40 < x.key.size) = false := decide_eq_false (by omega)
    have k2 : decide ((40 : Int) < (x.key.size : Int)) = false := decide_eq_false (by omega)
    by_cases h1 : x.kind = 1
    · have q1 : (x.kind == 1) = true := by rw [h1]; rfl
      by_cases hi : x.item.size ≤ 200
      · have i1 : decide (x.item.size ≤ 200) = true := decide_eq_true hi
        have i2 : decide ((x.item.size : Int) ≤ 200) = true := decide_eq_true (by omega)
        by_cases hv : x.v = 0
        · have v1 : (x.v == 0) = true := by rw [hv]; rfl
          have HE : Hid (decide (RightF x) = true) := by show _ = _; exact decide_eq_true (by unfold RightF; omega)
          rw [HE.out]
          clear hk hi hv h1
          go_enter Tryz.func39, Tryz.ntmps39
          go_wp2_with fail
          go_ret
          exact ⟨rfl, gb_alloc (gb_refl _ _) _⟩
        · have v1 : (x.v == 0) = false := by rw [beq_eq_false_iff_ne]; exact hv
          have HE : Hid (decide (RightF x) = false) := by show _ = _; exact decide_eq_false (by unfold RightF; omega)
          rw [HE.out]
          clear hk hi hv h1
          go_enter Tryz.func39, Tryz.ntmps39
          go_wp2_with fail
          go_ret
          exact ⟨rfl, gb_alloc (gb_refl _ _) _⟩
      · have i1 : decide (x.item.size ≤ 200) = false := decide_eq_false hi
        have i2 : decide ((x.item.size : Int) ≤ 200) = false := decide_eq_false (by omega)
        have HE : Hid (decide (RightF x) = false) := by show _ = _; exact decide_eq_false (by unfold RightF; omega)
        rw [HE.out]
        clear hk hi h1
        go_enter Tryz.func39, Tryz.ntmps39
        go_wp2_with fail
        go_ret
        exact ⟨rfl, gb_alloc (gb_refl _ _) _⟩
    · have q1 : (x.kind == 1) = false := by rw [beq_eq_false_iff_ne]; exact h1
      by_cases h2 : x.kind = 2
      · have q2 : (x.kind == 2) = true := by rw [h2]; rfl
        by_cases hi : x.item.size ≤ 200
        · have i1 : decide (x.item.size ≤ 200) = true := decide_eq_true hi
          have i2 : decide ((x.item.size : Int) ≤ 200) = true := decide_eq_true (by omega)
          by_cases hv : x.v = 0
          · have v1 : (x.v == 0) = true := by rw [hv]; rfl
            have HE : Hid (decide (RightF x) = true) := by show _ = _; exact decide_eq_true (by unfold RightF; omega)
            rw [HE.out]
            clear hk hi hv h1 h2
            go_enter Tryz.func39, Tryz.ntmps39
            go_wp2_with fail
            go_ret
            exact ⟨rfl, gb_alloc (gb_refl _ _) _⟩
          · have v1 : (x.v == 0) = false := by rw [beq_eq_false_iff_ne]; exact hv
            have HE : Hid (decide (RightF x) = false) := by show _ = _; exact decide_eq_false (by unfold RightF; omega)
            rw [HE.out]
            clear hk hi hv h1 h2
            go_enter Tryz.func39, Tryz.ntmps39
            go_wp2_with fail
            go_ret
            exact ⟨rfl, gb_alloc (gb_refl _ _) _⟩
        · have i1 : decide (x.item.size ≤ 200) = false := decide_eq_false hi
          have i2 : decide ((x.item.size : Int) ≤ 200) = false := decide_eq_false (by omega)
          have HE : Hid (decide (RightF x) = false) := by show _ = _; exact decide_eq_false (by unfold RightF; omega)
          rw [HE.out]
          clear hk hi h1 h2
          go_enter Tryz.func39, Tryz.ntmps39
          go_wp2_with fail
          go_ret
          exact ⟨rfl, gb_alloc (gb_refl _ _) _⟩
      · have q2 : (x.kind == 2) = false := by rw [beq_eq_false_iff_ne]; exact h2
        by_cases h3 : x.kind = 3
        · have q3 : (x.kind == 3) = true := by rw [h3]; rfl
          by_cases hi : x.item.size = 0
          · have i1 := str_none hi
            by_cases hl : -1099511627776 ≤ x.v
            · have l1 : decide (-1099511627776 ≤ x.v) = true := decide_eq_true hl
              by_cases hu : x.v ≤ 1099511627776
              · have u1 : decide (x.v ≤ 1099511627776) = true := decide_eq_true hu
                have HE : Hid (decide (RightF x) = true) := by show _ = _; exact decide_eq_true (by unfold RightF; omega)
                rw [HE.out]
                clear hk h1 h2 h3 hi hl hu
                go_enter Tryz.func39, Tryz.ntmps39
                go_wp2_with fail
                go_ret
                exact ⟨rfl, gb_alloc (gb_refl _ _) _⟩
              · have u1 : decide (x.v ≤ 1099511627776) = false := decide_eq_false hu
                have HE : Hid (decide (RightF x) = false) := by show _ = _; exact decide_eq_false (by unfold RightF; omega)
                rw [HE.out]
                clear hk h1 h2 h3 hi hl hu
                go_enter Tryz.func39, Tryz.ntmps39
                go_wp2_with fail
                go_ret
                exact ⟨rfl, gb_alloc (gb_refl _ _) _⟩
            · have l1 : decide (-1099511627776 ≤ x.v) = false := decide_eq_false hl
              have HE : Hid (decide (RightF x) = false) := by show _ = _; exact decide_eq_false (by unfold RightF; omega)
              rw [HE.out]
              clear hk h1 h2 h3 hi hl
              go_enter Tryz.func39, Tryz.ntmps39
              go_wp2_with fail
              go_ret
              exact ⟨rfl, gb_alloc (gb_refl _ _) _⟩
          · have i1 := str_some hi
            have HE : Hid (decide (RightF x) = false) := by show _ = _; exact decide_eq_false (by unfold RightF; omega)
            rw [HE.out]
            clear hk h1 h2 h3 hi
            go_enter Tryz.func39, Tryz.ntmps39
            go_wp2_with fail
            go_ret
            exact ⟨rfl, gb_alloc (gb_refl _ _) _⟩
        · have q3 : (x.kind == 3) = false := by rw [beq_eq_false_iff_ne]; exact h3
          have HE : Hid (decide (RightF x) = false) := by show _ = _; exact decide_eq_false (by unfold RightF; omega)
          rw [HE.out]
          clear hk h1 h2 h3
          go_enter Tryz.func39, Tryz.ntmps39
          go_wp2_with fail
          go_ret
          exact ⟨rfl, gb_alloc (gb_refl _ _) _⟩
  · have k1 : decide (40 < x.key.size) = true := decide_eq_true (by omega)
    have k2 : decide ((40 : Int) < (x.key.size : Int)) = true := decide_eq_true (by omega)
    have HE : Hid (decide (RightF x) = false) := by show _ = _; exact decide_eq_false (by unfold RightF; omega)
    rw [HE.out]
    clear hk
    go_enter Tryz.func39, Tryz.ntmps39
    go_wp2_with fail
    go_ret
    exact ⟨rfl, gb_alloc (gb_refl _ _) _⟩

theorem cmp_lt {d n e m : Int} (h : Lt d n e m) : cmpD d n e m = -1 := if_pos h
theorem cmp_is {d n e m : Int} (h : ¬ Lt d n e m) (h2 : d = e ∧ n = m) : cmpD d n e m = 0 := by unfold cmpD; rw [if_neg h, if_pos h2]
theorem cmp_gt {d n e m : Int} (h : ¬ Lt d n e m) (h2 : ¬ (d = e ∧ n = m)) : cmpD d n e m = 1 := by unfold cmpD; rw [if_neg h, if_neg h2]
theorem cmp_or (d n e m : Int) : cmpD d n e m = orI (cmpI d e) (cmpI n m) := by
  unfold cmpD orI cmpI Lt
  by_cases h1 : d < e
  · simp [h1]
  · by_cases h2 : e < d
    · have : ¬ d = e := by omega
      simp [h1, h2, this]
    · have h3 : d = e := by omega
      subst h3
      by_cases h4 : n < m
      · simp [h4]
      · by_cases h5 : m < n
        · have : ¬ n = m := by omega
          simp [h4, h5, this]
        · have : n = m := by omega
          simp [this]

attribute [local go_sem] Td.upon_value Td.upon_skip Td.upon_enter Td.upon_row Td.look_tmp Td.look_const Td.look_func Td.look_global
set_option maxHeartbeats 8000000 in
set_option maxRecDepth 100000 in
theorem pCmp_any (d n e m : Int) (w : World) : Calls Tryz.prog 76 #[.agg #[.int .i64 d, .int .i64 n], .agg #[.int .i64 e, .int .i64 m]] w fun r w' => r = .returned (.int .i64 (cmpD d n e m)) ∧ Gr w w' := by
  rw [cmp_or]
  go_enter Tryz.func76, Tryz.ntmps76
  go_upto_region 1 with fail
  obtain ⟨W0, hW0⟩ : ∃ W0, (w.alloc (.cells #[.int .i64 d, .int .i64 n] 44)).alloc (.cells #[.int .i64 e, .int .i64 m] 44) = W0 := ⟨_, rfl⟩
  have hr0 : Row W0 w.heap.size 44 #[.int .i64 d, .int .i64 n] := by rw [← hW0]; exact (Row.new _ _ _).alloc _
  have hs0 : Row W0 (w.heap.size + 1) 44 #[.int .i64 e, .int .i64 m] := by
    rw [← hW0]
    have h := Row.new (w.alloc (.cells #[.int .i64 d, .int .i64 n] 44)) 44 #[.int .i64 e, .int .i64 m]
    rwa [World.size_alloc] at h
  have HG : Hid (Gr w W0) := by show Gr w W0; rw [← hW0]; exact ((Gr.refl w).alloc _).alloc _
  have HR0 : Hid (∀ W, Gr W0 W → W.cell? ⟨w.heap.size, 0, none⟩ = some (.int .i64 d)) := fun W hW => (hr0.kept hW.gb (by simp)).at_ (i := 0) rfl
  have HR1 : Hid (∀ W, Gr W0 W → W.cell? ⟨w.heap.size, 1, none⟩ = some (.int .i64 n)) := fun W hW => (hr0.kept hW.gb (by simp)).at_ (i := 1) rfl
  have HS0 : Hid (∀ W, Gr W0 W → W.cell? ⟨w.heap.size + 1, 0, none⟩ = some (.int .i64 e)) := fun W hW => (hs0.kept hW.gb (by simp)).at_ (i := 0) rfl
  have HS1 : Hid (∀ W, Gr W0 W → W.cell? ⟨w.heap.size + 1, 1, none⟩ = some (.int .i64 m)) := fun W hW => (hs0.kept hW.gb (by simp)).at_ (i := 1) rfl
  rw [hW0]
  clear hW0 hr0 hs0
  apply wp_region_told (le := Gr) [isV _, isV _, isV _, isV _, isV _, isV _, isV _, isV _, isV _, isV _, twoV (cmpI d e) (cmpI n m), isV _, isV _]
  case hn => rfl
  case hm => kernel_rfl
  case hB => kernel_rfl
  case ht => exact fun _ _ _ h k => Gr.trans h k
  case hw => exact (Gr.refl _).drew
  -- 0: facts.go:68 fieldAddr
  apply told_is
  · intro W f hW hE h0 K hK
    have e2 := h0 2 (by kernel_rfl)
    conv at e2 => rhs; whnf
    clear hE h0
    refine yes_of (want_free rfl) ?_
    go_simp; exact hK _ _ (Gr.refl _) rfl
  -- 1: facts.go:68 load
  apply told_is
  · intro W f hW hE h0 K hK
    have e5 : f 5 = _ := hE 0 5 _ rfl (by kernel_rfl)
    clear hE h0
    refine yes_of (want_free rfl) ?_
    have q := HR0.out W hW
    go_simp; exact hK _ _ (Gr.refl _) rfl
  -- 2: facts.go:68 fieldAddr
  apply told_is
  · intro W f hW hE h0 K hK
    have e3 := h0 3 (by kernel_rfl)
    conv at e3 => rhs; whnf
    clear hE h0
    refine yes_of (want_free rfl) ?_
    go_simp; exact hK _ _ (Gr.refl _) rfl
  -- 3: facts.go:68 load
  apply told_is
  · intro W f hW hE h0 K hK
    have e7 : f 7 = _ := hE 0 7 _ rfl (by kernel_rfl)
    clear hE h0
    refine yes_of (want_free rfl) ?_
    have q := HS0.out W hW
    go_simp; exact hK _ _ (Gr.refl _) rfl
  -- 4: facts.go:68 call
  apply told_is
  · intro W f hW hE h0 K hK
    have e6 : f 6 = _ := hE 2 6 _ rfl (by kernel_rfl)
    have e8 : f 8 = _ := hE 0 8 _ rfl (by kernel_rfl)
    clear hE h0
    refine yes_of (want_free rfl) ?_
    go_simp
    refine (compare_any _ _ _).mono ?_
    rintro e w1 ⟨rfl, rfl⟩
    exact ⟨_, rfl, hK _ _ (Gr.refl _) rfl⟩
  -- 5: facts.go:68 fieldAddr
  apply told_is
  · intro W f hW hE h0 K hK
    have e2 := h0 2 (by kernel_rfl)
    conv at e2 => rhs; whnf
    clear hE h0
    refine yes_of (want_free rfl) ?_
    go_simp; exact hK _ _ (Gr.refl _) rfl
  -- 6: facts.go:68 load
  apply told_is
  · intro W f hW hE h0 K hK
    have e10 : f 10 = _ := hE 0 10 _ rfl (by kernel_rfl)
    clear hE h0
    refine yes_of (want_free rfl) ?_
    have q := HR1.out W hW
    go_simp; exact hK _ _ (Gr.refl _) rfl
  -- 7: facts.go:68 fieldAddr
  apply told_is
  · intro W f hW hE h0 K hK
    have e3 := h0 3 (by kernel_rfl)
    conv at e3 => rhs; whnf
    clear hE h0
    refine yes_of (want_free rfl) ?_
    go_simp; exact hK _ _ (Gr.refl _) rfl
  -- 8: facts.go:68 load
  apply told_is
  · intro W f hW hE h0 K hK
    have e12 : f 12 = _ := hE 0 12 _ rfl (by kernel_rfl)
    clear hE h0
    refine yes_of (want_free rfl) ?_
    have q := HS1.out W hW
    go_simp; exact hK _ _ (Gr.refl _) rfl
  -- 9: facts.go:68 call
  apply told_is
  · intro W f hW hE h0 K hK
    have e11 : f 11 = _ := hE 2 11 _ rfl (by kernel_rfl)
    have e13 : f 13 = _ := hE 0 13 _ rfl (by kernel_rfl)
    clear hE h0
    refine yes_of (want_free rfl) ?_
    go_simp
    refine (compare_any _ _ _).mono ?_
    rintro e w1 ⟨rfl, rfl⟩
    exact ⟨_, rfl, hK _ _ (Gr.refl _) rfl⟩
  -- 10: facts.go:68 buildSlice
  apply told_at twoV_stays
  · intro W f hW hE h0 K hK
    have e9 : f 9 = _ := hE 5 9 _ rfl (by kernel_rfl)
    have e14 : f 14 = _ := hE 0 14 _ rfl (by kernel_rfl)
    clear hE h0
    refine yes_of (want_free rfl) ?_
    go_simp; exact hK _ _ ((Gr.refl _).alloc _) ⟨_, rfl, Row.new _ _ _⟩
  -- 11: facts.go:68 call
  apply told_is
  · intro W f hW hE h0 K hK
    have e15 := hE 0 15 _ rfl (by kernel_rfl)
    clear hE h0
    refine yes_of (want_free rfl) ?_
    obtain ⟨g, e15, hrow⟩ := e15
    go_simp
    refine (or_any g _ _ _ hrow).mono ?_
    rintro e w1 ⟨rfl, rfl⟩
    exact ⟨_, rfl, hK _ _ (Gr.refl _) rfl⟩
  -- 12: facts.go:68 assign
  apply told_is
  · intro W f hW hE h0 K hK
    have e16 : f 16 = _ := hE 0 16 _ rfl (by kernel_rfl)
    clear hE h0
    refine yes_of (want_free rfl) ?_
    go_simp; exact hK _ _ (Gr.refl _) rfl
  intro W f hW hA
  simp only [lexIn, Act.put, List.setIfInBounds_toArray, List.set_cons_zero, List.set_cons_succ]
  have e4 : f 4 = _ := hA 0 (some 4) _ rfl
  rw [e4]
  clear hA
  go_wp2_with fail
  go_ret
  exact ⟨rfl, HG.out.trans hW⟩

set_option maxHeartbeats 8000000 in
set_option maxRecDepth 100000 in
theorem refCmp_any (d n e m : Int) (w : World) : Calls Tryz.prog 41 #[.agg #[.int .i64 d, .int .i64 n], .agg #[.int .i64 e, .int .i64 m]] w fun r w' => r = .returned (.int .i64 (cmpD d n e m)) ∧ w.grownBy w' none := by
  have hq := fun W => dotT_eql d n e m W
  have hG := dotT_guard
  by_cases h1 : d < e
  · have q1 : decide (d < e) = true := decide_eq_true h1
    have HE : Hid (cmpD d n e m = -1) := by exact cmp_lt (by unfold Lt; omega)
    rw [HE.out]
    clear h1
    go_enter Tryz.func41, Tryz.ntmps41
    go_wp2_with fail
    go_ret
    exact ⟨rfl, gb_alloc (gb_alloc (gb_refl _ _) _) _⟩
  · have q1 : decide (d < e) = false := decide_eq_false h1
    by_cases h2 : d = e
    · have q2 : (d == e) = true := by rw [h2]; simp
      by_cases h3 : n < m
      · have q3 : decide (n < m) = true := decide_eq_true h3
        have HE : Hid (cmpD d n e m = -1) := by exact cmp_lt (by unfold Lt; omega)
        rw [HE.out]
        clear h1 h2 h3
        go_enter Tryz.func41, Tryz.ntmps41
        go_wp2_with fail
        go_ret
        exact ⟨rfl, gb_alloc (gb_alloc (gb_refl _ _) _) _⟩
      · have q3 : decide (n < m) = false := decide_eq_false h3
        by_cases h4 : n = m
        · have q4 : eqD d n e m = true := (eqD_iff _ _ _ _).2 ⟨h2, h4⟩
          rw [q4] at hq
          have HE : Hid (cmpD d n e m = 0) := by exact cmp_is (by unfold Lt; omega) ⟨h2, h4⟩
          rw [HE.out]
          clear h1 h2 h3 h4 q4
          go_enter Tryz.func41, Tryz.ntmps41
          go_wp2_with fail
          go_ret
          exact ⟨rfl, gb_alloc (gb_alloc (gb_refl _ _) _) _⟩
        · have q4 : eqD d n e m = false := by rw [Bool.eq_false_iff, ne_eq, eqD_iff]; omega
          rw [q4] at hq
          have HE : Hid (cmpD d n e m = 1) := by exact cmp_gt (by unfold Lt; omega) (by omega)
          rw [HE.out]
          clear h1 h2 h3 h4 q4
          go_enter Tryz.func41, Tryz.ntmps41
          go_wp2_with fail
          go_ret
          exact ⟨rfl, gb_alloc (gb_alloc (gb_refl _ _) _) _⟩
    · have q2 : (d == e) = false := by rw [beq_eq_false_iff_ne]; exact h2
      have q4 : eqD d n e m = false := by rw [Bool.eq_false_iff, ne_eq, eqD_iff]; omega
      rw [q4] at hq
      have HE : Hid (cmpD d n e m = 1) := by exact cmp_gt (by unfold Lt; omega) (by omega)
      rw [HE.out]
      clear h1 h2 q4
      go_enter Tryz.func41, Tryz.ntmps41
      go_wp2_with fail
      go_ret
      exact ⟨rfl, gb_alloc (gb_alloc (gb_refl _ _) _) _⟩
end Go.Proofs.YthijiefopcnclaaGreatDoor.Dt
