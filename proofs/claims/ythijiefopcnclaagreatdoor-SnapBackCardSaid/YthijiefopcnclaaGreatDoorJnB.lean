/- Four states in one block. Joins of many states, one behind the other and by halves; lists of states in memory. All: the program's by halves, the document's one behind the other. The laws' has. What the laws of stage 9 call: awake. The laws' Apart: some states that devices come to, each by itself. -/
import Derived.Test.YthijiefopcnclaaGreatDoorFtMake
import Derived.Test.YthijiefopcnclaaGreatDoorFtB
import Derived.Test.YthijiefopcnclaaGreatDoorJnA
import Derived.Test.YthijiefopcnclaaGreatDoorFtC
import Derived.Test.YthijiefopcnclaaGreatDoorFtD
namespace Go.Proofs.YthijiefopcnclaaGreatDoor.Dt
open Go Go.RowKit Go.Proofs.YthijiefopcnclaaGreatDoor.Mm Go.Proofs.YthijiefopcnclaaGreatDoor.Td

/-- Runs and facts stay where a block of slices alone is written. -/
theorem sl_besideN {w w' : World} {A B : Option Addr} {n m h : Nat} {s : St} {t : TypeId} {cs : Array Value} (hr : SL w A n B m s) (hg : w.grownBy w' (some h)) (hrow : Row w h t cs) (hcs : ∀ (j : Nat) (v : Value), cs[j]? = some v → ∃ X a b, v = .slice X a b) : SL w' A n B m s := by
  refine ⟨⟨hr.1.1, fun h0 => ?_⟩, ⟨hr.2.1, fun h0 => ?_⟩⟩
  · obtain ⟨g, o, e, hl, hc⟩ := hr.1.2 h0
    obtain ⟨x, hx⟩ : ∃ x, s.seen[0]? = some x := ⟨_, List.getElem?_eq_getElem (by rw [hr.1.1]; exact h0)⟩
    have hne : some g ≠ some h := by
      intro e2
      obtain rfl := Option.some.inj e2
      have h1 := (hc 0 x hx).1
      rw [hrow.get] at h1
      obtain ⟨_, _, _, e3⟩ := hcs _ _ h1
      cases e3
    refine ⟨g, o, e, Nat.lt_of_lt_of_le hl hg.size, fun i y hy => ?_⟩
    have hb := hg.block g hl hne
    obtain ⟨c0, c1, c2⟩ := hc i y hy
    exact ⟨(World.cell?_of_block (a := ⟨g, o + i * 3, none⟩) hb).trans c0, (World.cell?_of_block (a := ⟨g, o + i * 3 + 1, none⟩) hb).trans c1, (World.cell?_of_block (a := ⟨g, o + i * 3 + 2, none⟩) hb).trans c2⟩
  · obtain ⟨g, o, e, hl, hc⟩ := hr.2.2 h0
    obtain ⟨x, hx⟩ : ∃ x, s.facts[0]? = some x := ⟨_, List.getElem?_eq_getElem (by rw [hr.2.1]; exact h0)⟩
    have hne : some g ≠ some h := by
      intro e2
      obtain rfl := Option.some.inj e2
      have h1 := (hc 0 x hx).1
      rw [hrow.get] at h1
      obtain ⟨_, _, _, e3⟩ := hcs _ _ h1
      cases e3
    exact ⟨g, o, e, Nat.lt_of_lt_of_le hl hg.size, fun i y hy => (hc i y hy).kept hl hg hne⟩
/-- The block gl holds the four states of a group. -/
def GR (W : World) (gl : Nat) (g : Grp) : Prop := ∃ cs : Array Value, Row W gl 25 cs ∧ cs.size = 8 ∧ ∀ i : Nat, i < 4 → ∃ (A : Option Addr) (n c : Nat) (B : Option Addr) (m d : Nat), cs[i * 2]? = some (.slice A n c) ∧ cs[i * 2 + 1]? = some (.slice B m d) ∧ SL W A n B m (g.at_ (i : Int)) ∧ n ≤ c ∧ m ≤ d
section
variable {W W' : World} {gl : Nat} {g : Grp}
theorem GR.keep (h : GR W gl g) (hg : W.grownBy W' none) : GR W' gl g := by
  obtain ⟨cs, hr, hs, hi⟩ := h
  exact ⟨cs, hr.kept hg (by simp), hs, fun i h4 => by obtain ⟨A, n, c, B, m, d, h1, h2, h3, h4, h5⟩ := hi i h4; exact ⟨A, n, c, B, m, d, h1, h2, h3.keep hg, h4, h5⟩⟩
theorem GR.lt (h : GR W gl g) : gl < W.heap.size := by obtain ⟨cs, hr, _⟩ := h; exact hr.lt
theorem GR.free (h : GR W gl g) (p : Nat) : W.frozen? ⟨gl, p, none⟩ = false := by obtain ⟨cs, hr, _⟩ := h; exact hr.free p
/-- What stands at place i, in whatever greater world. -/
theorem GR.get (h : GR W gl g) {i : Nat} (hi : i < 4) : ∃ (A : Option Addr) (n c : Nat) (B : Option Addr) (m d : Nat), n ≤ c ∧ m ≤ d ∧ n = (g.at_ (i : Int)).seen.length ∧ m = (g.at_ (i : Int)).facts.length ∧ ∀ W', W.grownBy W' none → W'.cell? ⟨gl, i * 2, none⟩ = some (.slice A n c) ∧ W'.cell? ⟨gl, i * 2 + 1, none⟩ = some (.slice B m d) ∧ SL W' A n B m (g.at_ (i : Int)) := by
  obtain ⟨cs, hr, hs, ha⟩ := h
  obtain ⟨A, n, c, B, m, d, h1, h2, h3, h4, h5⟩ := ha i hi
  exact ⟨A, n, c, B, m, d, h4, h5, h3.1.1.symm, h3.2.1.symm, fun W' hW => ⟨(hr.kept hW (by simp)).at_ h1, (hr.kept hW (by simp)).at_ h2, h3.keep hW⟩⟩
theorem Grp.set_at {g : Grp} {i : Int} (hi : In4 i) : g.set_ i (g.at_ i) = g := by rcases hi with rfl | rfl | rfl | rfl <;> rfl
theorem in4_nat {i : Nat} (h : i < 4) : In4 (i : Int) := by unfold In4; omega
theorem GR.slices {cs : Array Value} (hs : cs.size = 8) (ha : ∀ i : Nat, i < 4 → ∃ (A : Option Addr) (n c : Nat) (B : Option Addr) (m d : Nat), cs[i * 2]? = some (.slice A n c) ∧ cs[i * 2 + 1]? = some (.slice B m d) ∧ SL W A n B m (g.at_ (i : Int)) ∧ n ≤ c ∧ m ≤ d) : ∀ (j : Nat) (v : Value), cs[j]? = some v → ∃ X a b, v = .slice X a b := fun j v hv => by
  have hj : j < 8 := by have := (Array.getElem?_eq_some_iff.1 hv).1; omega
  obtain ⟨A, n, c, B, m, d, h1, h2, _⟩ := ha (j / 2) (by omega)
  by_cases h0 : j % 2 = 0
  · rw [show j / 2 * 2 = j by omega, hv] at h1
    exact ⟨A, n, c, Option.some.inj h1⟩
  · rw [show j / 2 * 2 + 1 = j by omega, hv] at h2
    exact ⟨B, m, d, Option.some.inj h2⟩
/-- A state is put at place i. -/
theorem GR.put (h : GR W gl g) {i : Nat} (hi : i < 4) {A B : Option Addr} {n c m d : Nat} {s : St} (hs : SL W A n B m s) (hc : n ≤ c) (hd : m ≤ d) : GR ((W.setCell ⟨gl, i * 2, none⟩ (.slice A n c)).setCell ⟨gl, i * 2 + 1, none⟩ (.slice B m d)) gl (g.set_ (i : Int) s) := by
  obtain ⟨cs, hr, h8, ha⟩ := h
  have hall := GR.slices h8 ha
  have hall2 : ∀ (j : Nat) (v : Value), (cs.setIfInBounds (i * 2) (.slice A n c))[j]? = some v → ∃ X a b, v = .slice X a b := fun j v hv => by
    rw [Array.getElem?_setIfInBounds] at hv
    split at hv
    · split at hv
      · exact ⟨A, n, c, (Option.some.inj hv).symm⟩
      · cases hv
    · exact hall j v hv
  have k1 := gb_set1 W gl (i * 2) (.slice A n c)
  have r1 := hr.set_ (i * 2) (.slice A n c)
  have k2 := gb_set1 (W.setCell ⟨gl, i * 2, none⟩ (.slice A n c)) gl (i * 2 + 1) (.slice B m d)
  have keep : ∀ {A' B' : Option Addr} {n' m' : Nat} {t : St}, SL W A' n' B' m' t → SL ((W.setCell ⟨gl, i * 2, none⟩ (.slice A n c)).setCell ⟨gl, i * 2 + 1, none⟩ (.slice B m d)) A' n' B' m' t := fun h => sl_besideN (sl_besideN h k1 hr hall) k2 r1 hall2
  refine ⟨_, r1.set_ (i * 2 + 1) (.slice B m d), by simpa using h8, fun j hj => ?_⟩
  rw [Grp.at_set (in4_nat hi) (in4_nat hj)]
  by_cases e : i = j
  · subst e
    rw [if_pos rfl]
    refine ⟨A, n, c, B, m, d, ?_, ?_, keep hs, hc, hd⟩
    · rw [Array.getElem?_setIfInBounds_ne (by omega), Array.getElem?_setIfInBounds_self_of_lt (by omega)]
    · rw [Array.getElem?_setIfInBounds_self_of_lt (by simp; omega)]
  · rw [if_neg (by omega)]
    obtain ⟨A', n', c', B', m', d', h1, h2, h3, h4, h5⟩ := ha j hj
    refine ⟨A', n', c', B', m', d', ?_, ?_, keep h3, h4, h5⟩
    · rw [Array.getElem?_setIfInBounds_ne (by omega), Array.getElem?_setIfInBounds_ne (by omega)]; exact h1
    · rw [Array.getElem?_setIfInBounds_ne (by omega), Array.getElem?_setIfInBounds_ne (by omega)]; exact h2
theorem GR.grown (W : World) (gl i : Nat) (u v : Value) : W.grownBy ((W.setCell ⟨gl, i * 2, none⟩ u).setCell ⟨gl, i * 2 + 1, none⟩ v) (some gl) := gb_then (gb_set1 _ _ _ _) (gb_set1 _ _ _ _)
/-- Four empty states. -/
theorem gr_new (w : World) : GR (w.alloc (.cells #[.slice none 0 0, .slice none 0 0, .slice none 0 0, .slice none 0 0, .slice none 0 0, .slice none 0 0, .slice none 0 0, .slice none 0 0] 25)) w.heap.size ⟨none_, none_, none_, none_⟩ := by
  refine ⟨_, Row.new _ _ _, rfl, fun i hi => ⟨none, 0, 0, none, 0, 0, ?_, ?_, ?_, Nat.le_refl _, Nat.le_refl _⟩⟩
  · match i, hi with
    | 0, _ => rfl
    | 1, _ => rfl
    | 2, _ => rfl
    | 3, _ => rfl
  · match i, hi with
    | 0, _ => rfl
    | 1, _ => rfl
    | 2, _ => rfl
    | 3, _ => rfl
  · have e : (⟨none_, none_, none_, none_⟩ : Grp).at_ (i : Int) = none_ := by unfold Grp.at_; repeat (first | rfl | split)
    rw [e]; exact ⟨RL.none _ _, FL.none _ _⟩
end
end Go.Proofs.YthijiefopcnclaaGreatDoor.Dt

namespace Go.Proofs.YthijiefopcnclaaGreatDoor.Dt
open Go Go.RowKit Go.Proofs.YthijiefopcnclaaGreatDoor.Mm Go.Proofs.YthijiefopcnclaaGreatDoor.Td

theorem mem_join (a b : St) (f : Fc) : f ∈ (joinS a b).facts ↔ (f ∈ a.facts ∧ (!hasB b.seen f.d f.n || atB b.facts f.d f.n) = true) ∨ (f ∈ b.facts ∧ (!hasB a.seen f.d f.n) = true) := joinF_mem a b f
theorem hasB_join {a b : St} (ha : SS a) (hb : SS b) (d n : Int) : hasB (joinS a b).seen d n = (hasB a.seen d n || hasB b.seen d n) := by
  rw [Bool.eq_iff_iff, hasB_iff, join_seen ha hb, Bool.or_eq_true, hasB_iff, hasB_iff]
theorem nine : ∀ fa fb fc ha hb hc ta tb tc : Bool, (fa → ta) → (fb → tb) → (fc → tc) → (ta → ha) → (tb → hb) → (tc → hc) →
    (((fa && (!hb || tb) || fb && !ha) && (!hc || tc) || fc && !(ha || hb)) = (fa && (!(hb || hc) || (tb && tc || tb && !hc || tc && !hb)) || (fb && (!hc || tc) || fc && !hb) && !ha)) := by decide
theorem boolOf (p : Prop) : ∃ b : Bool, b = true ↔ p := by
  by_cases h : p
  · exact ⟨true, by simp [h]⟩
  · exact ⟨false, by simp [h]⟩
/-- Joins of any three, whether or not they agree: of a fact of one dot the first one's stays. -/
theorem join_assoc_any {a b c : St} (ha : SS a) (hb : SS b) (hc : SS c) : joinS (joinS a b) c = joinS a (joinS b c) := by
  have h1 := join_ss ha hb
  have h2 := join_ss hb hc
  refine st_canon (join_ss h1 hc) (join_ss ha h2) (fun d n => ?_) fun f => ?_
  · rw [join_seen h1 hc, join_seen ha hb, join_seen ha h2, join_seen hb hc]; exact or_assoc
  · have at_of : ∀ {s : St} {g : Fc}, g ∈ s.facts → atB s.facts g.d g.n = true := fun h => (atB_iff _ _ _).2 ⟨_, h, rfl, rfl⟩
    have has_of : ∀ {s : St}, SS s → atB s.facts f.d f.n = true → hasB s.seen f.d f.n = true := fun hs h => by
      obtain ⟨g, hg, e1, e2⟩ := (atB_iff _ _ _).1 h
      rw [hasB_iff, ← e1, ← e2]; exact hs.2.1 g hg
    obtain ⟨fa, hfa⟩ := boolOf (f ∈ a.facts)
    obtain ⟨fb, hfb⟩ := boolOf (f ∈ b.facts)
    obtain ⟨fc, hfc⟩ := boolOf (f ∈ c.facts)
    have key := nine fa fb fc (hasB a.seen f.d f.n) (hasB b.seen f.d f.n) (hasB c.seen f.d f.n) (atB a.facts f.d f.n) (atB b.facts f.d f.n) (atB c.facts f.d f.n)
      (fun h => at_of (hfa.1 h)) (fun h => at_of (hfb.1 h)) (fun h => at_of (hfc.1 h)) (has_of ha) (has_of hb) (has_of hc)
    rw [mem_join, mem_join a b, hasB_join ha hb, mem_join a, mem_join b c, hasB_join hb hc, join_at hb hc, ← hfa, ← hfb, ← hfc]
    rw [Bool.eq_iff_iff] at key
    simp only [Bool.or_eq_true, Bool.and_eq_true] at key ⊢
    exact key
theorem allS_ss : ∀ {l : List St} {a : St}, SS a → (∀ s ∈ l, SS s) → SS (l.foldl joinS a)
  | [], _, h, _ => h
  | s :: l, a, h, hl => allS_ss (l := l) (a := joinS a s) (join_ss h (hl s (by simp))) fun t ht => hl t (by simp [ht])
theorem all_from : ∀ {l : List St} {a : St}, SS a → (∀ s ∈ l, SS s) → l.foldl joinS a = joinS a (allS l)
  | [], a, h, _ => (join_none h).1.symm
  | s :: l, a, h, hl => by
    have hs := hl s (by simp)
    have hl2 : ∀ t ∈ l, SS t := fun t ht => hl t (by simp [ht])
    have hall : SS (allS l) := allS_ss none_ss hl2
    show l.foldl joinS (joinS a s) = joinS a (l.foldl joinS (joinS none_ s))
    rw [all_from (join_ss h hs) hl2, all_from (join_ss none_ss hs) hl2, (join_none hs).2, join_assoc_any h hs hall]
theorem allS_append {l k : List St} (hl : ∀ s ∈ l, SS s) (hk : ∀ s ∈ k, SS s) : allS (l ++ k) = joinS (allS l) (allS k) := by
  unfold allS
  rw [List.foldl_append]
  exact all_from (allS_ss none_ss hl) hk
theorem allS_halves {l : List St} (hl : ∀ s ∈ l, SS s) (h : Nat) : allS l = joinS (allS (l.take h)) (allS (l.drop h)) := by
  rw [← allS_append (fun s hs => hl s (List.mem_of_mem_take hs)) (fun s hs => hl s (List.mem_of_mem_drop hs)), List.take_append_drop]
/-- A state lies here, as two slices. -/
def StAt (W : World) (g o : Nat) (s : St) : Prop := ∃ (A : Option Addr) (n c : Nat) (B : Option Addr) (m d : Nat), W.cell? ⟨g, o, none⟩ = some (.slice A n c) ∧ W.cell? ⟨g, o + 1, none⟩ = some (.slice B m d) ∧ SL W A n B m s ∧ n ≤ c ∧ m ≤ d
theorem StAt.keep {W W' : World} {g o : Nat} {s : St} (h : StAt W g o s) (hg : g < W.heap.size) (k : W.grownBy W' none) : StAt W' g o s := by
  obtain ⟨A, n, c, B, m, d, h1, h2, h3, h4, h5⟩ := h
  have hb := k.block g hg (by simp)
  exact ⟨A, n, c, B, m, d, (World.cell?_of_block (a := ⟨g, o, none⟩) hb).trans h1, (World.cell?_of_block (a := ⟨g, o + 1, none⟩) hb).trans h2, h3.keep k, h4, h5⟩
/-- The slice at A, of n states, reads as these. -/
def AL (W : World) (A : Option Addr) (n : Nat) (ls : List St) : Prop := ls.length = n ∧ (0 < n → ∃ g o, A = some ⟨g, o, none⟩ ∧ g < W.heap.size ∧ ∀ i s, ls[i]? = some s → StAt W g (o + i * 2) s)
section
variable {W W' : World} {A : Option Addr} {n : Nat} {ls : List St}
theorem AL.keep (h : AL W A n ls) (k : W.grownBy W' none) : AL W' A n ls := by
  refine ⟨h.1, fun h0 => ?_⟩
  obtain ⟨g, o, e, hg, hs⟩ := h.2 h0
  exact ⟨g, o, e, Nat.lt_of_lt_of_le hg k.size, fun i s hi => (hs i s hi).keep hg k⟩
theorem AL.take (h : AL W A n ls) {m : Nat} (hm : m ≤ n) : AL W A m (ls.take m) := by
  refine ⟨by rw [List.length_take, h.1]; omega, fun h0 => ?_⟩
  obtain ⟨g, o, e, hg, hs⟩ := h.2 (by omega)
  refine ⟨g, o, e, hg, fun i s hi => hs i s ?_⟩
  have hil : i < m := by have := (List.getElem?_eq_some_iff.1 hi).1; rw [List.length_take] at this; omega
  rwa [List.getElem?_take, if_pos hil] at hi
theorem AL.drop {g o : Nat} (h : AL W (some ⟨g, o, none⟩) n ls) {m : Nat} (hm : m ≤ n) : AL W (some ⟨g, o + m * 2, none⟩) (n - m) (ls.drop m) := by
  refine ⟨by rw [List.length_drop, h.1], fun h0 => ?_⟩
  obtain ⟨g', o', e, hg, hs⟩ := h.2 (by omega)
  cases e
  refine ⟨_, _, rfl, hg, fun i s hi => ?_⟩
  rw [List.getElem?_drop] at hi
  have := hs _ s hi
  rwa [show o + (m + i) * 2 = o + m * 2 + i * 2 by omega] at this
/-- What stands at place i, in whatever greater world. -/
theorem AL.get {g o : Nat} (h : AL W (some ⟨g, o, none⟩) n ls) {i : Nat} {s : St} (hi : ls[i]? = some s) : ∃ (A : Option Addr) (n c : Nat) (B : Option Addr) (m d : Nat), n ≤ c ∧ m ≤ d ∧ n = s.seen.length ∧ m = s.facts.length ∧ ∀ W', W.grownBy W' none → W'.cell? ⟨g, o + i * 2, none⟩ = some (.slice A n c) ∧ W'.cell? ⟨g, o + i * 2 + 1, none⟩ = some (.slice B m d) ∧ SL W' A n B m s := by
  have hn : 0 < n := by have h1 := (List.getElem?_eq_some_iff.1 hi).1; have := h.1; omega
  obtain ⟨g', o', e, hg, hs⟩ := h.2 hn
  cases e
  obtain ⟨A, n, c, B, m, d, h1, h2, h3, h4, h5⟩ := hs i s hi
  refine ⟨A, n, c, B, m, d, h4, h5, h3.1.1.symm, h3.2.1.symm, fun W' hW => ?_⟩
  have hb := hW.block _ hg (by simp)
  exact ⟨(World.cell?_of_block (a := ⟨_, _, none⟩) hb).trans h1, (World.cell?_of_block (a := ⟨_, _, none⟩) hb).trans h2, h3.keep hW⟩
end
def Grp.l (g : Grp) : List St := [g.s0, g.s1, g.s2, g.s3]
theorem GR.al {W : World} {gl : Nat} {g : Grp} (h : GR W gl g) : AL W (some ⟨gl, 0, none⟩) 4 g.l := by
  refine ⟨rfl, fun _ => ⟨gl, 0, rfl, h.lt, fun i s hi => ?_⟩⟩
  have h4 : i < 4 := (List.getElem?_eq_some_iff.1 hi).1
  obtain ⟨A, n, c, B, m, d, k1, k2, k3, k4, k5⟩ := h.get h4
  obtain ⟨c0, c1, c2⟩ := k5 W (gb_refl _ _)
  have e : g.at_ (i : Int) = s := by
    match i, h4, hi with
    | 0, _, hi => exact Option.some.inj hi
    | 1, _, hi => exact Option.some.inj hi
    | 2, _, hi => exact Option.some.inj hi
    | 3, _, hi => exact Option.some.inj hi
  rw [e] at c2
  exact ⟨A, n, c, B, m, d, by rw [Nat.zero_add]; exact c0, by rw [Nat.zero_add]; exact c1, c2, k1, k2⟩
/-- How long a state is. -/
def Lens (s : St) : Prop := s.seen.length ≤ 10000 ∧ s.facts.length ≤ 10000
/-- All parts of a list, the whole apart, come to something that is not too long. -/
def Parts (ls : List St) : Prop := (∀ s ∈ ls, SS s ∧ Lens s) ∧ ∀ i j, j < ls.length → Lens (allS ((ls.drop i).take j))
theorem Parts.ss {ls : List St} (h : Parts ls) : ∀ s ∈ ls, SS s := fun s hs => (h.1 s hs).1
theorem Parts.part {ls : List St} (h : Parts ls) {i j : Nat} (hj : j < ls.length) : Parts ((ls.drop i).take j) := by
  refine ⟨fun s hs => h.1 s (List.mem_of_mem_drop (List.mem_of_mem_take hs)), fun a b hb => ?_⟩
  rw [List.length_take] at hb
  have := h.2 (i + a) (min b (j - a)) (by omega)
  rw [← List.drop_drop, ← List.take_take] at this
  rw [List.drop_take, List.take_take]
  rwa [List.take_take] at this
end Go.Proofs.YthijiefopcnclaaGreatDoor.Dt

namespace Go.Proofs.YthijiefopcnclaaGreatDoor.Dt
open Go Go.RowKit Go.Proofs.YthijiefopcnclaaGreatDoor.Mm Go.Proofs.YthijiefopcnclaaGreatDoor.Td

attribute [local go_sem] Td.upon_value Td.upon_skip Td.upon_enter Td.upon_row Td.look_tmp Td.look_const Td.look_func Td.look_global
set_option maxHeartbeats 16000000 in
set_option maxRecDepth 100000 in
theorem refAll_any (A : Option Addr) (n c : Nat) (ls : List St) (w : World) (ha : AL w A n ls) (hp : ∀ s ∈ ls, SS s ∧ Lens s) (hk : ∀ k, k < n → Lens (allS (ls.take k))) (hn : n ≤ 100000) : Calls Tryz.prog 14 #[.slice A n c] w (States (allS ls) w) := by
  obtain ⟨h0, hh0⟩ : ∃ h0, w.heap.size = h0 := ⟨_, rfl⟩
  have Hh0 : Hid (w.heap.size ≤ h0) := by show _ ≤ _; omega
  obtain ⟨W0, hW0⟩ : ∃ W0, (w.alloc (.cells #[.slice none 0 0, .slice none 0 0] 25)).alloc (.cells #[.slice none 0 0, .slice none 0 0] 25) = W0 := ⟨_, rfl⟩
  have G0 : w.grownBy W0 none := by rw [← hW0]; exact gb_alloc (gb_alloc (gb_refl _ _) _) _
  have HG := Lib.hid G0
  have HR0 : Hid (Row W0 h0 25 #[.slice none 0 0, .slice none 0 0]) := by rw [← hW0, ← hh0]; exact (Row.new _ _ _).alloc _
  have HR1 : Hid (Row W0 (h0 + 1) 25 #[.slice none 0 0, .slice none 0 0]) := by
    rw [← hW0, ← hh0]
    have h := Row.new (w.alloc (.cells #[.slice none 0 0, .slice none 0 0] 25)) 25 #[.slice none 0 0, .slice none 0 0]
    rw [World.size_alloc] at h
    exact h
  have Ha0 := Lib.hid ha
  have Ha := Lib.hid (ha.keep G0)
  have Hp := Lib.hid hp
  have Hk := Lib.hid hk
  have Hn := Lib.hid hn
  clear G0 ha hp hk hn
  go_enter Tryz.func14, Tryz.ntmps14
  go_upto_region 2 with fail
  clear hW0 hh0
  go_wp2_with fail
  go_loopw [4] (fun i wr => ∃ (k : Nat) (A1 B1 : Option Addr) (n1 c1 m1 d1 : Nat), k ≤ n ∧ i = .int .i64 k ∧ Row wr h0 25 #[.slice none 0 0, .slice none 0 0] ∧ Row wr (h0 + 1) 25 #[.slice A1 n1 c1, .slice B1 m1 d1] ∧ SL wr A1 n1 B1 m1 (allS (ls.take k)) ∧ n1 ≤ c1 ∧ m1 ≤ d1 ∧ AL wr A n ls ∧ w.grownBy wr none) (fun i _ => n - (intOf i).toNat)
  case atStart => exact ⟨0, none, none, 0, 0, 0, 0, Nat.zero_le _, rfl, HR0.out, HR1.out, ⟨RL.none _ _, FL.none _ _⟩, Nat.le_refl _, Nat.le_refl _, Ha.out, HG.out⟩
  case round =>
    obtain ⟨k, A1, B1, n1, c1, m1, d1, hk, rfl, hr0, hr1, hs, hc1, hd1, hal, hg⟩ := hrel
    have HRow0 := Lib.hid hr0
    have HRow1 := Lib.hid hr1
    have Hs := Lib.hid hs
    have Hg := Lib.hid hg
    have Hal := Lib.hid hal
    have Hcd : Hid (n1 ≤ c1 ∧ m1 ≤ d1) := ⟨hc1, hd1⟩
    by_cases hlt : k < n
    · have d1' : decide (k < n) = true := decide_eq_true hlt
      have d2' : decide ((k : Int) < (n : Int)) = true := decide_eq_true (by omega)
      obtain ⟨g, o, rfl, _, _⟩ := hal.2 (by omega)
      obtain ⟨s, hsk⟩ : ∃ s, ls[k]? = some s := ⟨_, List.getElem?_eq_getElem (by rw [hal.1]; exact hlt)⟩
      obtain ⟨A5, n5, c5, B5, m5, d5, hc5, hd5, hn5, hm5, hget⟩ := hal.get hsk
      have hps := Hp.out s (List.mem_of_getElem? hsk)
      have HX := Lib.hid hget
      have HBk : Hid ((k : Int) < (n : Int)) := by show _ < _; omega
      have hSk : SS (allS (ls.take k)) := allS_ss none_ss fun t ht => (Hp.out t (List.mem_of_mem_take ht)).1
      have hlk := Hk.out k hlt
      have hnext : allS (ls.take (k + 1)) = joinS (allS (ls.take k)) s := by
        rw [List.take_add_one, hsk]
        show (ls.take k ++ [s]).foldl joinS none_ = _
        rw [List.foldl_append]; rfl
      have Hnext := Lib.hid hnext
      have HJ : Hid (∀ W, wr.grownBy W none → Calls Tryz.prog 35 #[.agg #[.slice A1 n1 c1, .slice B1 m1 d1], .agg #[.slice A5 n5 c5, .slice B5 m5 d5]] W (States (joinS (allS (ls.take k)) s) W)) := fun W hW => refJoin_any A1 B1 A5 B5 n1 c1 m1 d1 n5 c5 m5 d5 _ s W (Hs.out.keep hW) (HX.out W hW).2.2 hSk hps.1 (by have := hlk.1; have := Hs.out.1.1; omega) (by have := hlk.2; have := Hs.out.2.1; omega) (by have := hps.2.1; omega) (by have := hps.2.2; omega)
      have Hlt := Lib.hid hlt
      have Ht : Hid (IntKind.i64.wrap ((k : Int) + 1) = ((k + 1 : Nat) : Int)) := by show _ = _; rw [IntKind.wrap_i64]; have := Hn.out; omega
      clear hr0 hr1 hs hc1 hd1 hal hg hk hlt hsk hc5 hd5 hn5 hm5 hget hps hSk hlk hnext
      go_upto_region 5 with fail
      clear d1' d2'
      apply wp_region_told_tail (le := fun a b => a.grownBy b none) 6 _ [isV _, isV _, isV _, isV _, isV _, stateV (joinS (allS (ls.take k)) s)]
      case hL => rfl
      case hz => rfl
      case hLd => rfl
      case hLg => rfl
      case hLw => kernel_rfl
      case hlen => rfl
      case hn => rfl
      case hm => kernel_rfl
      case hB => kernel_rfl
      case ht => exact fun _ _ _ h k => gb_none h k
      case hw => exact gb_drew (gb_refl _ _)
      -- 0: ref.go:230 load
      apply told_is
      · intro W f hW hE h0 K hK
        have e3 := h0 3 (by kernel_rfl)
        conv at e3 => rhs; whnf
        clear hE h0
        refine yes_of (want_free rfl) ?_
        have z0 := (HRow1.out.kept hW (by simp)).at_ (i := 0) rfl
        have z1 := (HRow1.out.kept hW (by simp)).at_ (i := 1) rfl
        go_simp; exact hK _ _ (gb_refl _ _) rfl
      -- 1: ref.go:230 move
      apply told_is
      · intro W f hW hE h0 K hK
        have e0 := h0 0 (by kernel_rfl)
        conv at e0 => rhs; whnf
        clear hE h0
        refine yes_of (want_free rfl) ?_
        go_simp; exact hK _ _ (gb_refl _ _) rfl
      -- 2: ref.go:230 move
      apply told_is
      · intro W f hW hE h0 K hK
        have e4 := h0 4 (by kernel_rfl)
        conv at e4 => rhs; whnf
        clear hE h0
        refine yes_of (want_free rfl) ?_
        go_simp; exact hK _ _ (gb_refl _ _) rfl
      -- 3: ref.go:230 indexAddr
      apply told_is
      · intro W f hW hE h0 K hK
        have e12 : f 12 = _ := hE 1 12 _ rfl (by kernel_rfl)
        have e13 : f 13 = _ := hE 0 13 _ rfl (by kernel_rfl)
        clear hE h0
        refine yes_of (want_free rfl) ?_
        have b0 := HBk.out
        go_simp; exact hK _ _ (gb_refl _ _) rfl
      -- 4: ref.go:230 load
      apply told_is
      · intro W f hW hE h0 K hK
        have e14 : f 14 = _ := hE 0 14 _ rfl (by kernel_rfl)
        clear hE h0
        refine yes_of (want_free rfl) ?_
        obtain ⟨c0, c1, _⟩ := HX.out W hW
        go_simp; exact hK _ _ (gb_refl _ _) rfl
      -- 5: ref.go:230 call
      apply told_at stateV_stays
      · intro W f hW hE h0 K hK
        have e11 : f 11 = _ := hE 4 11 _ rfl (by kernel_rfl)
        have e15 : f 15 = _ := hE 0 15 _ rfl (by kernel_rfl)
        clear hE h0
        refine yes_of (want_free rfl) ?_
        go_simp
        refine (HJ.out W hW).mono ?_
        rintro e w1' ⟨A2, n2, c2, B2, m2, d2, rfl, h1, h2, h3, g⟩
        exact ⟨_, rfl, hK _ _ g ⟨A2, n2, c2, B2, m2, d2, rfl, h1, h2, h3⟩⟩
      intro W f hW hA
      simp only [lexIn, Act.put, List.setIfInBounds_toArray, List.set_cons_zero, List.set_cons_succ]
      have e16 := hA 0 (some 16) _ rfl
      clear hA
      obtain ⟨A4, n4, c4, B4, m4, d4, e16, hs4, hc4, hd4⟩ := e16
      rw [e16]
      have hr := HRow1.out.kept hW (by simp)
      have q0 := hr.free 0
      have q1 := hr.free 1
      have u0 := hr.at_ (i := 0) rfl
      have u1 := hr.at_ (i := 1) rfl
      have g1 := gb_set1 W (h0 + 1) 0 (.slice A4 n4 c4)
      have x1 := hr.set_ 0 (.slice A4 n4 c4)
      have g2 := gb_set1 (W.setCell ⟨h0 + 1, 0, none⟩ (.slice A4 n4 c4)) (h0 + 1) 1 (.slice B4 m4 d4)
      have Hx2 := Lib.hid (x1.set_ 1 (.slice B4 m4 d4))
      have Hs4 := Lib.hid (sl_beside (sl_beside hs4 g1 hr) g2 x1)
      have hb : w.heap.size ≤ h0 + 1 := by have := Hh0.out; omega
      have hgw := gb_new (gb_new (gb_none Hg.out hW) g1 hb) g2 hb
      have Hgg := Lib.hid hgw
      have Hr00 := Lib.hid (((HRow0.out.kept hW (by simp)).kept g1 (by simp)).kept g2 (by simp))
      have Hal4 : Hid (AL ((W.setCell ⟨h0 + 1, 0, none⟩ (.slice A4 n4 c4)).setCell ⟨h0 + 1, 1, none⟩ (.slice B4 m4 d4)) (some ⟨g, o, none⟩) n ls) := Ha0.out.keep hgw
      have Hcd4 : Hid (n4 ≤ c4 ∧ m4 ≤ d4) := ⟨hc4, hd4⟩
      clear g1 g2 x1 hs4 hc4 hd4 hW hgw hb
      rw [ends_is]
      go_simp
      clear q0 q1 u0 u1 hr
      have t1 := Ht.out
      go_wp2_with fail
      go_roundw
      case rel => exact ⟨k + 1, A4, B4, n4, c4, m4, d4, by have := Hlt.out; omega, rfl, Hr00.out, Hx2.out, by rw [Hnext.out]; exact Hs4.out, Hcd4.out.1, Hcd4.out.2, Hal4.out, Hgg.out⟩
      case measure => simp [intOf]; have := Hlt.out; omega
    · have hkn : k = n := by omega
      subst hkn
      have d1' : decide (k < k) = false := by simp
      have d2' : decide ((k : Int) < (k : Int)) = false := by simp
      have e0 := hr0.at_ (i := 0) rfl
      have e1 := hr0.at_ (i := 1) rfl
      have f0 := hr0.free 0
      have f1 := hr0.free 1
      have u0 := hr1.at_ (i := 0) rfl
      have u1 := hr1.at_ (i := 1) rfl
      have hfin : ls.take k = ls := List.take_of_length_le (by rw [hal.1]; exact Nat.le_refl _)
      rw [hfin] at Hs
      clear hr0 hr1 hs hc1 hd1 hal hg hk hlt hfin
      go_wp2_with fail
      have k1 := gb_set1 wr h0 0 (.slice A1 n1 c1)
      have k2 := gb_set1 (wr.setCell ⟨h0, 0, none⟩ (.slice A1 n1 c1)) h0 1 (.slice B1 m1 d1)
      have r1 := HRow0.out.set_ 0 (.slice A1 n1 c1)
      have r2 := r1.set_ 1 (.slice B1 m1 d1)
      exact bodyPost_ret (results_cell_row rfl _ _ h0 25 _ (0, 0) _ rfl r2 Tryz.underlying25 rfl (by kernel_rfl)) rfl ⟨A1, n1, c1, B1, m1, d1, rfl, sl_beside (sl_beside Hs.out k1 HRow0.out) k2 r1, Hcd.out.1, Hcd.out.2, gb_new (gb_new Hg.out k1 Hh0.out) k2 Hh0.out⟩
end Go.Proofs.YthijiefopcnclaaGreatDoor.Dt

namespace Go.Proofs.YthijiefopcnclaaGreatDoor.Dt
open Go Go.RowKit Go.Proofs.YthijiefopcnclaaGreatDoor.Mm Go.Proofs.YthijiefopcnclaaGreatDoor.Td
end Go.Proofs.YthijiefopcnclaaGreatDoor.Dt

namespace Go.Proofs.YthijiefopcnclaaGreatDoor.Dt
open Go Go.RowKit Go.Proofs.YthijiefopcnclaaGreatDoor.Mm Go.Proofs.YthijiefopcnclaaGreatDoor.Td

theorem nl_two (w : World) (x y : Int) (t : TypeId) (hx : 0 ≤ x ∧ x ≤ 255) (hy : 0 ≤ y ∧ y ≤ 255) : NL (w.alloc (.cells #[.int .u8 x, .int .u8 y] t)) (some ⟨w.heap.size, 0, none⟩) 2 [x, y] := by
  have hr := Row.new w t #[.int .u8 x, .int .u8 y]
  refine ⟨rfl, fun _ => ⟨w.heap.size, 0, rfl, hr.lt, fun i r h => ?_⟩, fun q hq => ?_⟩
  · have hi : i = 0 ∨ i = 1 := by have := (List.getElem?_eq_some_iff.1 h).1; simp at this; omega
    rcases hi with rfl | rfl
    · obtain rfl : x = r := by simpa using h
      exact hr.at_ (i := 0) rfl
    · obtain rfl : y = r := by simpa using h
      exact hr.at_ (i := 1) rfl
  · simp only [List.mem_cons, List.not_mem_nil, or_false] at hq
    rcases hq with rfl | rfl <;> assumption
/-- Two of one state, in a block of their own. -/
theorem al_new2 (w : World) {A B : Option Addr} {n c m d : Nat} {s : St} (hs : SL w A n B m s) (hc : n ≤ c) (hd : m ≤ d) : AL (w.alloc (.cells #[.slice A n c, .slice B m d, .slice A n c, .slice B m d] 25)) (some ⟨w.heap.size, 0, none⟩) 2 [s, s] := by
  have hr := Row.new w 25 #[.slice A n c, .slice B m d, .slice A n c, .slice B m d]
  have hk := hs.keep (gb_alloc (gb_refl w none) (.cells #[.slice A n c, .slice B m d, .slice A n c, .slice B m d] 25))
  refine ⟨rfl, fun _ => ⟨_, 0, rfl, hr.lt, fun i t hi => ?_⟩⟩
  have h2 : i = 0 ∨ i = 1 := by have := (List.getElem?_eq_some_iff.1 hi).1; simp at this; omega
  rcases h2 with rfl | rfl
  · obtain rfl : s = t := by simpa using hi
    exact ⟨A, n, c, B, m, d, hr.at_ (i := 0) rfl, hr.at_ (i := 1) rfl, hk, hc, hd⟩
  · obtain rfl : s = t := by simpa using hi
    exact ⟨A, n, c, B, m, d, hr.at_ (i := 2) rfl, hr.at_ (i := 3) rfl, hk, hc, hd⟩
def pairV (s : St) : Td.Spec := fun W v => ∃ g, v = .slice (some ⟨g, 0, none⟩) 2 2 ∧ AL W (some ⟨g, 0, none⟩) 2 [s, s]
theorem pairV_stays {s : St} : Stays (fun a b => a.grownBy b none) (pairV s) := fun _ _ _ h ⟨g, e, ha⟩ => ⟨g, e, ha.keep h⟩
/-- The laws' example: one deed, one fact. -/
theorem wk9 : (makeK [0, 1] 1).facts.length = 1 := by decide +kernel
theorem parts_two {s : St} (hs : SS s) (hl : Lens s) : Parts [s, s] := by
  refine ⟨fun t ht => ?_, fun i j hj => ?_⟩
  · simp only [List.mem_cons, List.not_mem_nil, or_false, or_self] at ht
    subst ht; exact ⟨hs, hl⟩
  · have h0 : Lens (allS []) := ⟨Nat.zero_le _, Nat.zero_le _⟩
    have h1 : Lens (allS [s]) := by rw [show allS [s] = s from (join_none hs).2]; exact hl
    have hj2 : j = 0 ∨ j = 1 := by simp at hj; omega
    rcases hj2 with rfl | rfl
    · simpa using h0
    · match i with
      | 0 => simpa using h1
      | 1 => simpa using h1
      | i + 2 => simpa using h0
attribute [local go_sem] Td.upon_value Td.upon_skip Td.upon_enter Td.upon_row Td.look_tmp Td.look_const Td.look_func Td.look_global
end Go.Proofs.YthijiefopcnclaaGreatDoor.Dt

namespace Go.Proofs.YthijiefopcnclaaGreatDoor.Dt
open Go Go.RowKit Go.Proofs.YthijiefopcnclaaGreatDoor.Mm Go.Proofs.YthijiefopcnclaaGreatDoor.Td

theorem mk4 (W : World) : (Instr.makeSlice 39 (.int .i64 4) (.int .i64 4)).run Tryz.prog W = .ok (.slice (some ⟨W.heap.size, 0, none⟩) 4 4) (W.alloc (.cells #[.slice none 0 0, .slice none 0 0, .slice none 0 0, .slice none 0 0, .slice none 0 0, .slice none 0 0, .slice none 0 0, .slice none 0 0] 25)) := by
  kernel_rfl
attribute [local go_sem] Td.upon_value Td.upon_skip Td.upon_enter Td.upon_row Td.look_tmp Td.look_const Td.look_func Td.look_global
/-- What Apart leaves. -/
def Grps (g : Grp) (w : World) (e : Ending) (w' : World) : Prop := ∃ gl, e = .returned (.slice (some ⟨gl, 0, none⟩) 4 4) ∧ GR w' gl g ∧ w.heap.size ≤ gl ∧ w.grownBy w' none
set_option maxHeartbeats 40000000 in
set_option maxRecDepth 100000 in
theorem apart9_any (A : Option Addr) (n c : Nat) (ns : List Int) (w : World) (hl : NL w A n ns) :
    Calls Tryz.prog 15 #[.slice A n c] w (Grps (apartK ns (min (n / 3) 40)) w) := by
  obtain ⟨K, hK⟩ : ∃ K, min (n / 3) 40 = K := ⟨_, rfl⟩
  rw [hK]
  have HK : Hid (K ≤ 40 ∧ ∀ k, k < K ↔ 3 * k + 2 < n ∧ 3 * k < 120) := ⟨by omega, fun k => by omega⟩
  have Hl := Lib.hid hl
  obtain ⟨gl, hgl⟩ : ∃ gl, w.heap.size = gl := ⟨_, rfl⟩
  have Hgl : Hid (w.heap.size ≤ gl) := by show _ ≤ _; omega
  have HG0 := Lib.hid (gr_new w)
  rw [hgl] at HG0
  have HG1 := Lib.hid (gb_alloc (gb_refl w none) (.cells #[.slice none 0 0, .slice none 0 0, .slice none 0 0, .slice none 0 0, .slice none 0 0, .slice none 0 0, .slice none 0 0, .slice none 0 0] 25))
  have hmk := mk4 w
  rw [hgl] at hmk
  clear hl hK
  go_enter Tryz.func15, Tryz.ntmps15
  go_wp2_with fail
  clear hgl hmk
  go_loopw [4] (fun i wr => ∃ (k q : Nat), q = 3 * k ∧ k ≤ K ∧ i = .int .i64 q ∧ GR wr gl (apartK ns k) ∧ w.grownBy wr none) (fun i _ => 3 * K - (intOf i).toNat)
  case atStart => exact ⟨0, 0, rfl, Nat.zero_le _, rfl, HG0.out, HG1.out⟩
  case round =>
    obtain ⟨k, q, hq, hk, rfl, hG, hg⟩ := hrel
    by_cases hlt : k < K
    · have hin := (HK.out.2 k).1 hlt
      have hk40 := HK.out.1
      obtain ⟨x, hx⟩ : ∃ x, ns[q]? = some x := ⟨_, List.getElem?_eq_getElem (by rw [Hl.out.1]; omega)⟩
      obtain ⟨y, hy⟩ : ∃ y, ns[q + 1]? = some y := ⟨_, List.getElem?_eq_getElem (by rw [Hl.out.1]; omega)⟩
      obtain ⟨z, hz⟩ : ∃ z, ns[q + 2]? = some z := ⟨_, List.getElem?_eq_getElem (by rw [Hl.out.1]; omega)⟩
      obtain ⟨g, o, rfl, hgl, hcc⟩ := (Hl.out.keep hg).2.1 (by omega)
      obtain ⟨x0, x1⟩ := Hl.out.2.2 x (List.mem_of_getElem? hx)
      obtain ⟨y0, y1⟩ := Hl.out.2.2 y (List.mem_of_getElem? hy)
      obtain ⟨z0, z1⟩ := Hl.out.2.2 z (List.mem_of_getElem? hz)
      have hc0 := hcc q x hx
      have hc1 := hcc (q + 1) y hy
      have hc2 := hcc (q + 2) z hz
      have HCs : Hid (∀ W, wr.grownBy W none → W.cell? ⟨g, o + q, none⟩ = some (.int .u8 x) ∧ W.cell? ⟨g, o + (q + 1), none⟩ = some (.int .u8 y) ∧ W.cell? ⟨g, o + (q + 2), none⟩ = some (.int .u8 z)) := fun W hW => ⟨(World.cell?_of_block (a := ⟨g, o + q, none⟩) (hW.block g hgl (by simp))).trans hc0, (World.cell?_of_block (a := ⟨g, o + (q + 1), none⟩) (hW.block g hgl (by simp))).trans hc1, (World.cell?_of_block (a := ⟨g, o + (q + 2), none⟩) (hW.block g hgl (by simp))).trans hc2⟩
      obtain ⟨oo, hoo⟩ : ∃ oo, opN y z = oo := ⟨_, rfl⟩
      obtain ⟨dN, hdN⟩ : ∃ dN : Nat, x % 4 = (dN : Int) := ⟨(x % 4).toNat, by omega⟩
      obtain ⟨eN, heN⟩ : ∃ eN : Nat, y % 4 = (eN : Int) := ⟨(y % 4).toNat, by omega⟩
      have hd4 : dN < 4 := by omega
      have he4 : eN < 4 := by omega
      have HdN := Lib.hid hd4
      obtain ⟨gr, hgr⟩ : ∃ gr, apartK ns k = gr := ⟨_, rfl⟩
      have hfine := apartK_fine ns k (by omega)
      rw [hgr] at hfine hG
      have HFine := Lib.hid hfine
      have Hnext : Hid (apartK ns (k + 1) = apartStep gr x y z) := by
        show _ = _
        rw [apartK, ← hq, List.getD_eq_getElem?_getD, List.getD_eq_getElem?_getD, List.getD_eq_getElem?_getD, hx, hy, hz, hgr, Option.getD_some, Option.getD_some, Option.getD_some]
      have HB3 : Hid ((q : Int) < (n : Int) ∧ (q : Int) + 1 < (n : Int) ∧ (q : Int) + 2 < (n : Int)) := ⟨by omega, by omega, by omega⟩
      have HBq : Hid (((q + 1 : Nat) : Int) < (n : Int) ∧ (q : Int) + 1 < (n : Int) ∧ 0 ≤ (q : Int) + 1) := ⟨by omega, by omega, by omega⟩
      have HBq2 : Hid (((q + 2 : Nat) : Int) < (n : Int) ∧ (q : Int) + 2 < (n : Int) ∧ 0 ≤ (q : Int) + 2) := ⟨by omega, by omega, by omega⟩
      have HBd : Hid ((dN : Int) < 4 ∧ dN < 4 ∧ 0 ≤ (dN : Int)) := ⟨by omega, hd4, by omega⟩
      have HBe : Hid ((eN : Int) < 4 ∧ eN < 4 ∧ 0 ≤ (eN : Int)) := ⟨by omega, he4, by omega⟩
      have Hx1 : Hid (IntKind.i64.wrap x = x) := by show _ = _; rw [IntKind.wrap_i64]; omega
      have Hx2 : Hid (x.tmod 4 = (dN : Int)) := by show _ = _; rw [Int.tmod_eq_emod_of_nonneg x0, hdN]
      have Hx3 : Hid (IntKind.i64.wrap (dN : Int) = (dN : Int)) := by show _ = _; rw [IntKind.wrap_i64]; omega
      have Hy1 : Hid (IntKind.i64.wrap y = y) := by show _ = _; rw [IntKind.wrap_i64]; omega
      have Hy2 : Hid (y.tmod 4 = (eN : Int)) := by show _ = _; rw [Int.tmod_eq_emod_of_nonneg y0, heN]
      have Hy3 : Hid (IntKind.i64.wrap (eN : Int) = (eN : Int)) := by show _ = _; rw [IntKind.wrap_i64]; omega
      have Ht1 : Hid (IntKind.i64.wrap ((q : Int) + 1) = ((q + 1 : Nat) : Int)) := by show _ = _; rw [IntKind.wrap_i64]; omega
      have Ht2 : Hid (IntKind.i64.wrap ((q : Int) + 2) = ((q + 2 : Nat) : Int)) := by show _ = _; rw [IntKind.wrap_i64]; omega
      have Ht3 : Hid (IntKind.i64.wrap ((q : Int) + 3) = ((q + 3 : Nat) : Int)) := by show _ = _; rw [IntKind.wrap_i64]; omega
      have HO : Hid (∀ W, Calls Tryz.prog 37 #[.int .u8 y, .int .u8 z] W fun e w' => e = .returned (.agg #[.int .i64 oo.kind, .string oo.key, .string oo.item, .int .i64 oo.v]) ∧ W.grownBy w' none) := fun W => by rw [← hoo]; exact op_any y z W y0 y1 z0 z1
      have hov : IntKind.i64.wrap oo.v = oo.v := by rw [← hoo]; show IntKind.i64.wrap (z - 100) = z - 100; rw [IntKind.wrap_i64]; omega
      obtain ⟨A1, n1, cc1, B1, m1, dd1, hcd1, hmd1, hnl1, hml1, hD1⟩ := hG.get hd4
      obtain ⟨A4, n4, cc4, B4, m4, dd4, hcd4, hmd4, hnl4, hml4, hD4⟩ := hG.get he4
      have hsh1 := (hfine.low _ (in4_nat hd4)).short (hfine.may _ (in4_nat hd4))
      have hsh4 := (hfine.low _ (in4_nat he4)).short (hfine.may _ (in4_nat he4))
      have Hn1 : Hid (n1 ≤ 320 ∧ m1 ≤ 320 ∧ n4 ≤ 320 ∧ m4 ≤ 320) := ⟨by omega, by omega, by omega, by omega⟩
      have HDd := Lib.hid hD1
      have HEe := Lib.hid hD4
      have HJ7 : Hid (∀ W, wr.grownBy W none → Calls Tryz.prog 35 #[.agg #[.slice A1 n1 cc1, .slice B1 m1 dd1], .agg #[.slice A4 n4 cc4, .slice B4 m4 dd4]] W (States (joinS (gr.at_ (dN : Int)) (gr.at_ (eN : Int))) W)) := fun W hW => refJoin_any A1 B1 A4 B4 n1 cc1 m1 dd1 n4 cc4 m4 dd4 _ _ W (HDd.out W hW).2.2 (HEe.out W hW).2.2 (HFine.out.may _ (in4_nat hd4)).ss (HFine.out.may _ (in4_nat he4)).ss (by omega) (by omega) (by omega) (by omega)
      have HDo : Hid (∀ W, wr.grownBy W none → Calls Tryz.prog 36 #[.agg #[.slice A1 n1 cc1, .slice B1 m1 dd1], .int .i64 (dN : Int), .agg #[.int .i64 oo.kind, .string oo.key, .string oo.item, .int .i64 oo.v]] W (DoneIs (gr.at_ (dN : Int)) (dN : Int) oo W)) := fun W hW => refDo_any A1 B1 n1 cc1 m1 dd1 _ (dN : Int) oo W (HDd.out W hW).2.2 (HFine.out.may _ (in4_nat hd4)) (by omega) hov
      have HGR := Lib.hid hG
      have Hg := Lib.hid hg
      have Hq := Lib.hid hq
      have Hlt := Lib.hid hlt
      have HxN : Hid (x % 4 = (dN : Int) ∧ y % 4 = (eN : Int) ∧ opN y z = oo) := ⟨hdN, heN, hoo⟩
      have d1 : decide (q + 2 < n) = true := decide_eq_true (by omega)
      have d2 : decide (((q + 2 : Nat) : Int) < (n : Int)) = true := decide_eq_true (by omega)
      have d5 : decide ((q : Int) + 2 < (n : Int)) = true := decide_eq_true (by omega)
      have d3 : decide ((q : Int) < 120) = true := decide_eq_true (by omega)
      have d4 : decide (q < 120) = true := decide_eq_true (by omega)
      have t1 := Hx1.out
      have t2 := Hx2.out
      have t4 := Ht2.out
      have bq1 : (q : Int) < (n : Int) := HB3.out.1
      obtain ⟨c0, c1, c2⟩ := HCs.out wr (gb_refl _ _)
      have t3 := Hx3.out
      clear hk40 hcc hc0 hc1 hc2 hgl hx hy hz hoo hdN heN hd4 he4 hgr hfine hG hg hq hk hlt hin x0 x1 y0 y1 z0 z1 hov hcd1 hmd1 hnl1 hml1 hD1 hcd4 hmd4 hnl4 hml4 hD4 hsh1 hsh4
      by_cases h160 : 160 ≤ x
      · have e1 : decide (160 ≤ x) = true := decide_eq_true h160
        have Hst : Hid (apartK ns (k + 1) = gr.set_ (dN : Int) (joinS (gr.at_ (dN : Int)) (gr.at_ (eN : Int)))) := by
          show _ = _
          rw [Hnext.out]; unfold apartStep; rw [if_pos h160, HxN.out.1, HxN.out.2.1]
        clear h160
        go_upto_region 7 with fail
        clear d1 d2 d3 d4 d5 t1 t2 t3 t4 bq1 c0 c1 c2 e1
        apply wp_region_told_tail (le := fun a b => a.grownBy b none) 18 _ [isV _, isV _, isV _, isV _, isV _, isV _, isV _, isV _, isV _, isV _, isV _, isV _, isV _, isV _, isV _, isV _, stateV (joinS (gr.at_ (dN : Int)) (gr.at_ (eN : Int))), isV _]
        case hL => rfl
        case hz => rfl
        case hLd => rfl
        case hLg => rfl
        case hLw => kernel_rfl
        case hlen => rfl
        case hn => rfl
        case hm => kernel_rfl
        case hB => kernel_rfl
        case ht => exact fun _ _ _ h k => gb_none h k
        case hw => exact gb_drew (gb_refl _ _)
        -- 0: law.go:32 move
        apply told_is
        · intro W f hW hE h0 K hK
          have e3 := h0 3 (by kernel_rfl)
          conv at e3 => rhs; whnf
          clear hE h0
          refine yes_of (want_free rfl) ?_
          go_simp; exact hK _ _ (gb_refl _ _) rfl
        -- 1: law.go:32 move
        apply told_is
        · intro W f hW hE h0 K hK
          have e5 := h0 5 (by kernel_rfl)
          conv at e5 => rhs; whnf
          clear hE h0
          refine yes_of (want_free rfl) ?_
          go_simp; exact hK _ _ (gb_refl _ _) rfl
        -- 2: law.go:32 move
        apply told_is
        · intro W f hW hE h0 K hK
          have e3 := h0 3 (by kernel_rfl)
          conv at e3 => rhs; whnf
          clear hE h0
          refine yes_of (want_free rfl) ?_
          go_simp; exact hK _ _ (gb_refl _ _) rfl
        -- 3: law.go:32 move
        apply told_is
        · intro W f hW hE h0 K hK
          have e5 := h0 5 (by kernel_rfl)
          conv at e5 => rhs; whnf
          clear hE h0
          refine yes_of (want_free rfl) ?_
          go_simp; exact hK _ _ (gb_refl _ _) rfl
        -- 4: law.go:32 indexAddr
        apply told_is
        · intro W f hW hE h0 K hK
          have e32 : f 32 = _ := hE 1 32 _ rfl (by kernel_rfl)
          have e33 : f 33 = _ := hE 0 33 _ rfl (by kernel_rfl)
          clear hE h0
          refine yes_of (want_free rfl) ?_
          obtain ⟨b0, b1, b2⟩ := HBd.out
          go_simp; exact hK _ _ (gb_refl _ _) rfl
        -- 5: law.go:32 load
        apply told_is
        · intro W f hW hE h0 K hK
          have e34 : f 34 = _ := hE 0 34 _ rfl (by kernel_rfl)
          clear hE h0
          refine yes_of (want_free rfl) ?_
          obtain ⟨z0, z1, _⟩ := HDd.out W hW
          go_simp; exact hK _ _ (gb_refl _ _) rfl
        -- 6: law.go:32 move
        apply told_is
        · intro W f hW hE h0 K hK
          have e3 := h0 3 (by kernel_rfl)
          conv at e3 => rhs; whnf
          clear hE h0
          refine yes_of (want_free rfl) ?_
          go_simp; exact hK _ _ (gb_refl _ _) rfl
        -- 7: law.go:32 move
        apply told_is
        · intro W f hW hE h0 K hK
          have e0 := h0 0 (by kernel_rfl)
          conv at e0 => rhs; whnf
          clear hE h0
          refine yes_of (want_free rfl) ?_
          go_simp; exact hK _ _ (gb_refl _ _) rfl
        -- 8: law.go:32 move
        apply told_is
        · intro W f hW hE h0 K hK
          have e4 := h0 4 (by kernel_rfl)
          conv at e4 => rhs; whnf
          clear hE h0
          refine yes_of (want_free rfl) ?_
          go_simp; exact hK _ _ (gb_refl _ _) rfl
        -- 9: law.go:32 binOp
        apply told_is
        · intro W f hW hE h0 K hK
          have e38 : f 38 = _ := hE 0 38 _ rfl (by kernel_rfl)
          clear hE h0
          refine yes_of (want_free rfl) ?_
          have t1 := Ht1.out
          go_simp; exact hK _ _ (gb_refl _ _) rfl
        -- 10: law.go:32 indexAddr
        apply told_is
        · intro W f hW hE h0 K hK
          have e37 : f 37 = _ := hE 2 37 _ rfl (by kernel_rfl)
          have e39 : f 39 = _ := hE 0 39 _ rfl (by kernel_rfl)
          clear hE h0
          refine yes_of (want_free rfl) ?_
          obtain ⟨b0, b1, b2⟩ := HBq.out
          go_simp; exact hK _ _ (gb_refl _ _) rfl
        -- 11: law.go:32 load
        apply told_is
        · intro W f hW hE h0 K hK
          have e40 : f 40 = _ := hE 0 40 _ rfl (by kernel_rfl)
          clear hE h0
          refine yes_of (want_free rfl) ?_
          obtain ⟨c0, c1, c2⟩ := HCs.out W hW
          go_simp; exact hK _ _ (gb_refl _ _) rfl
        -- 12: law.go:32 convert
        apply told_is
        · intro W f hW hE h0 K hK
          have e41 : f 41 = _ := hE 0 41 _ rfl (by kernel_rfl)
          clear hE h0
          refine yes_of (want_free rfl) ?_
          have t1 := Hy1.out
          go_simp; exact hK _ _ (gb_refl _ _) rfl
        -- 13: law.go:32 binOp
        apply told_is
        · intro W f hW hE h0 K hK
          have e42 : f 42 = _ := hE 0 42 _ rfl (by kernel_rfl)
          clear hE h0
          refine yes_of (want_free rfl) ?_
          have t1 := Hy2.out; have t2 := Hy3.out
          go_simp; exact hK _ _ (gb_refl _ _) rfl
        -- 14: law.go:32 indexAddr
        apply told_is
        · intro W f hW hE h0 K hK
          have e36 : f 36 = _ := hE 7 36 _ rfl (by kernel_rfl)
          have e43 : f 43 = _ := hE 0 43 _ rfl (by kernel_rfl)
          clear hE h0
          refine yes_of (want_free rfl) ?_
          obtain ⟨b0, b1, b2⟩ := HBe.out
          go_simp; exact hK _ _ (gb_refl _ _) rfl
        -- 15: law.go:32 load
        apply told_is
        · intro W f hW hE h0 K hK
          have e44 : f 44 = _ := hE 0 44 _ rfl (by kernel_rfl)
          clear hE h0
          refine yes_of (want_free rfl) ?_
          obtain ⟨z0, z1, _⟩ := HEe.out W hW
          go_simp; exact hK _ _ (gb_refl _ _) rfl
        -- 16: law.go:32 call
        apply told_at stateV_stays
        · intro W f hW hE h0 K hK
          have e35 : f 35 = _ := hE 10 35 _ rfl (by kernel_rfl)
          have e45 : f 45 = _ := hE 0 45 _ rfl (by kernel_rfl)
          clear hE h0
          refine yes_of (want_free rfl) ?_
          go_simp
          refine (HJ7.out W hW).mono ?_
          rintro e w1' ⟨A2, n2, c2, B2, m2, d2, rfl, h1, h2, h3, g⟩
          exact ⟨_, rfl, hK _ _ g ⟨A2, n2, c2, B2, m2, d2, rfl, h1, h2, h3⟩⟩
        -- 17: law.go:32 indexAddr
        apply told_is
        · intro W f hW hE h0 K hK
          have e30 : f 30 = _ := hE 16 30 _ rfl (by kernel_rfl)
          have e31 : f 31 = _ := hE 15 31 _ rfl (by kernel_rfl)
          clear hE h0
          refine yes_of (want_free rfl) ?_
          obtain ⟨b0, b1, b2⟩ := HBd.out
          go_simp; exact hK _ _ (gb_refl _ _) rfl
        intro W f hW hA
        simp only [lexIn, Act.put, List.setIfInBounds_toArray, List.set_cons_zero, List.set_cons_succ]
        have e46 := hA 1 (some 46) _ rfl
        have e47 : f 47 = _ := hA 0 (some 47) _ rfl
        rw [e47]
        clear hA
        obtain ⟨A3, n3, c3, B3, m3, d3, e46, hs3, hc3, hd3⟩ := e46
        rw [e46]
        have HGw : Hid (GR W gl gr) := HGR.out.keep hW
        have Hgw : Hid (w.grownBy W none) := gb_none Hg.out hW
        obtain ⟨z0, z1, _⟩ := HDd.out W hW
        have q0 := HGw.out.free (dN * 2)
        have q1 := HGw.out.free (dN * 2 + 1)
        have HP : Hid (GR ((W.setCell ⟨gl, dN * 2, none⟩ (.slice A3 n3 c3)).setCell ⟨gl, dN * 2 + 1, none⟩ (.slice B3 m3 d3)) gl (apartK ns (k + 1))) := by
          have h := HGw.out.put HdN.out hs3 hc3 hd3
          rw [Hst.out]
          exact h
        have Hgn : Hid (w.grownBy ((W.setCell ⟨gl, dN * 2, none⟩ (.slice A3 n3 c3)).setCell ⟨gl, dN * 2 + 1, none⟩ (.slice B3 m3 d3)) none) := gb_new Hgw.out (GR.grown _ _ _ _ _) Hgl.out
        clear hs3 hc3 hd3 hW
        rw [ends_is]
        go_simp
        clear q0 q1 z0 z1
        have t3 := Ht3.out
        go_wp2_with fail
        go_roundw
        case rel => exact ⟨k + 1, q + 3, by have := Hq.out; omega, by have := Hlt.out; omega, rfl, HP.out, Hgn.out⟩
        case measure => simp [intOf]; have := Hq.out; have := Hlt.out; omega
      · have e1 : decide (160 ≤ x) = false := decide_eq_false h160
        have Hst : Hid (apartK ns (k + 1) = gr.set_ (dN : Int) (stepM (gr.at_ (dN : Int)) (dN : Int) oo)) := by
          show _ = _
          rw [Hnext.out]; unfold apartStep; rw [if_neg h160, HxN.out.1, HxN.out.2.2]
        clear h160
        go_upto_region 8 with fail
        clear d1 d2 d3 d4 d5 t1 t2 t3 t4 bq1 c0 c1 c2 e1
        apply wp_region_told_tail (le := fun a b => a.grownBy b none) 18 _ [isV _, isV _, isV _, isV _, isV _, isV _, isV _, isV _, isV _, isV _, isV _, isV _, isV _, isV _, isV _, isV _, doV (gr.at_ (dN : Int)) (dN : Int) oo, newB _ 80 #[.slice none 0 0, .slice none 0 0, .int .i64 0]]
        case hL => rfl
        case hz => rfl
        case hLd => rfl
        case hLg => rfl
        case hLw => kernel_rfl
        case hlen => rfl
        case hn => rfl
        case hm => kernel_rfl
        case hB => kernel_rfl
        case ht => exact fun _ _ _ h k => gb_none h k
        case hw => exact gb_drew (gb_refl _ _)
        -- 0: law.go:35 move
        apply told_is
        · intro W f hW hE h0 K hK
          have e3 := h0 3 (by kernel_rfl)
          conv at e3 => rhs; whnf
          clear hE h0
          refine yes_of (want_free rfl) ?_
          go_simp; exact hK _ _ (gb_refl _ _) rfl
        -- 1: law.go:35 move
        apply told_is
        · intro W f hW hE h0 K hK
          have e5 := h0 5 (by kernel_rfl)
          conv at e5 => rhs; whnf
          clear hE h0
          refine yes_of (want_free rfl) ?_
          go_simp; exact hK _ _ (gb_refl _ _) rfl
        -- 2: law.go:35 indexAddr
        apply told_is
        · intro W f hW hE h0 K hK
          have e48 : f 48 = _ := hE 1 48 _ rfl (by kernel_rfl)
          have e49 : f 49 = _ := hE 0 49 _ rfl (by kernel_rfl)
          clear hE h0
          refine yes_of (want_free rfl) ?_
          obtain ⟨b0, b1, b2⟩ := HBd.out
          go_simp; exact hK _ _ (gb_refl _ _) rfl
        -- 3: law.go:35 load
        apply told_is
        · intro W f hW hE h0 K hK
          have e50 : f 50 = _ := hE 0 50 _ rfl (by kernel_rfl)
          clear hE h0
          refine yes_of (want_free rfl) ?_
          obtain ⟨z0, z1, _⟩ := HDd.out W hW
          go_simp; exact hK _ _ (gb_refl _ _) rfl
        -- 4: law.go:35 move
        apply told_is
        · intro W f hW hE h0 K hK
          have e5 := h0 5 (by kernel_rfl)
          conv at e5 => rhs; whnf
          clear hE h0
          refine yes_of (want_free rfl) ?_
          go_simp; exact hK _ _ (gb_refl _ _) rfl
        -- 5: law.go:35 move
        apply told_is
        · intro W f hW hE h0 K hK
          have e0 := h0 0 (by kernel_rfl)
          conv at e0 => rhs; whnf
          clear hE h0
          refine yes_of (want_free rfl) ?_
          go_simp; exact hK _ _ (gb_refl _ _) rfl
        -- 6: law.go:35 move
        apply told_is
        · intro W f hW hE h0 K hK
          have e4 := h0 4 (by kernel_rfl)
          conv at e4 => rhs; whnf
          clear hE h0
          refine yes_of (want_free rfl) ?_
          go_simp; exact hK _ _ (gb_refl _ _) rfl
        -- 7: law.go:35 binOp
        apply told_is
        · intro W f hW hE h0 K hK
          have e54 : f 54 = _ := hE 0 54 _ rfl (by kernel_rfl)
          clear hE h0
          refine yes_of (want_free rfl) ?_
          have t1 := Ht1.out
          go_simp; exact hK _ _ (gb_refl _ _) rfl
        -- 8: law.go:35 indexAddr
        apply told_is
        · intro W f hW hE h0 K hK
          have e53 : f 53 = _ := hE 2 53 _ rfl (by kernel_rfl)
          have e55 : f 55 = _ := hE 0 55 _ rfl (by kernel_rfl)
          clear hE h0
          refine yes_of (want_free rfl) ?_
          obtain ⟨b0, b1, b2⟩ := HBq.out
          go_simp; exact hK _ _ (gb_refl _ _) rfl
        -- 9: law.go:35 load
        apply told_is
        · intro W f hW hE h0 K hK
          have e56 : f 56 = _ := hE 0 56 _ rfl (by kernel_rfl)
          clear hE h0
          refine yes_of (want_free rfl) ?_
          obtain ⟨c0, c1, c2⟩ := HCs.out W hW
          go_simp; exact hK _ _ (gb_refl _ _) rfl
        -- 10: law.go:35 move
        apply told_is
        · intro W f hW hE h0 K hK
          have e0 := h0 0 (by kernel_rfl)
          conv at e0 => rhs; whnf
          clear hE h0
          refine yes_of (want_free rfl) ?_
          go_simp; exact hK _ _ (gb_refl _ _) rfl
        -- 11: law.go:35 move
        apply told_is
        · intro W f hW hE h0 K hK
          have e4 := h0 4 (by kernel_rfl)
          conv at e4 => rhs; whnf
          clear hE h0
          refine yes_of (want_free rfl) ?_
          go_simp; exact hK _ _ (gb_refl _ _) rfl
        -- 12: law.go:35 binOp
        apply told_is
        · intro W f hW hE h0 K hK
          have e59 : f 59 = _ := hE 0 59 _ rfl (by kernel_rfl)
          clear hE h0
          refine yes_of (want_free rfl) ?_
          have t1 := Ht2.out
          go_simp; exact hK _ _ (gb_refl _ _) rfl
        -- 13: law.go:35 indexAddr
        apply told_is
        · intro W f hW hE h0 K hK
          have e58 : f 58 = _ := hE 2 58 _ rfl (by kernel_rfl)
          have e60 : f 60 = _ := hE 0 60 _ rfl (by kernel_rfl)
          clear hE h0
          refine yes_of (want_free rfl) ?_
          obtain ⟨b0, b1, b2⟩ := HBq2.out
          have tn : ((q : Int) + 2).toNat = q + 2 := by omega
          go_simp; exact hK _ _ (gb_refl _ _) rfl
        -- 14: law.go:35 load
        apply told_is
        · intro W f hW hE h0 K hK
          have e61 : f 61 = _ := hE 0 61 _ rfl (by kernel_rfl)
          clear hE h0
          refine yes_of (want_free rfl) ?_
          obtain ⟨c0, c1, c2⟩ := HCs.out W hW
          go_simp; exact hK _ _ (gb_refl _ _) rfl
        -- 15: law.go:35 call
        apply told_is
        · intro W f hW hE h0 K hK
          have e57 : f 57 = _ := hE 5 57 _ rfl (by kernel_rfl)
          have e62 : f 62 = _ := hE 0 62 _ rfl (by kernel_rfl)
          clear hE h0
          refine yes_of (want_free rfl) ?_
          go_simp
          refine (HO.out W).mono ?_
          rintro e w1' ⟨rfl, g⟩
          exact ⟨_, rfl, hK _ _ g rfl⟩
        -- 16: law.go:35 call
        apply told_at doV_stays
        · intro W f hW hE h0 K hK
          have e51 : f 51 = _ := hE 12 51 _ rfl (by kernel_rfl)
          have e52 : f 52 = _ := hE 11 52 _ rfl (by kernel_rfl)
          have e63 : f 63 = _ := hE 0 63 _ rfl (by kernel_rfl)
          clear hE h0
          refine yes_of (want_free rfl) ?_
          go_simp
          refine (HDo.out W hW).mono ?_
          rintro e w1' ⟨A2, n2, c2, B2, m2, d2, rfl, h1, h2, h3, g⟩
          exact ⟨_, rfl, hK _ _ g ⟨A2, n2, c2, B2, m2, d2, rfl, h1, h2, h3⟩⟩
        -- 17: law.go:35 alloc
        apply told_at newB_stays
        · intro W f hW hE h0 K hK
          clear hE h0
          refine yes_of (want_free rfl) ?_
          go_simp
          exact hK _ _ (gb_alloc (gb_refl _ _) _) ⟨_, rfl, hW.size, Row.new _ _ _⟩
        intro W f hW hA
        simp only [lexIn, Act.put, List.setIfInBounds_toArray, List.set_cons_zero, List.set_cons_succ]
        have e64 := hA 1 (some 64) _ rfl
        have e6 := hA 0 (some 6) _ rfl
        clear hA
        obtain ⟨A2, n2, c2, B2, m2, d2, e64, hs2, hc2, hd2⟩ := e64
        rw [e64]
        obtain ⟨gq, eq_, hgN, hr⟩ := e6
        rw [eq_]
        have q0 := hr.free 0
        have q1 := hr.free 1
        have q2 := hr.free 2
        have u0 := hr.at_ (i := 0) rfl
        have u1 := hr.at_ (i := 1) rfl
        have u2 := hr.at_ (i := 2) rfl
        have k1 := gb_set1 W gq 0 (.slice A2 n2 c2)
        have r1 := hr.set_ 0 (.slice A2 n2 c2)
        have k2 := gb_set1 (W.setCell ⟨gq, 0, none⟩ (.slice A2 n2 c2)) gq 1 (.slice B2 m2 d2)
        have r2 := r1.set_ 1 (.slice B2 m2 d2)
        have k3 := gb_set1 ((W.setCell ⟨gq, 0, none⟩ (.slice A2 n2 c2)).setCell ⟨gq, 1, none⟩ (.slice B2 m2 d2)) gq 2 (.int .i64 (doS (gr.at_ (dN : Int)) (dN : Int) oo).2)
        have r3 := r2.set_ 2 (.int .i64 (doS (gr.at_ (dN : Int)) (dN : Int) oo).2)
        have Hs2 := Lib.hid (sl_beside3 (sl_beside3 (sl_beside3 hs2 k1 hr) k2 r1) k3 r2)
        have Hr3 := Lib.hid r3
        have Gw := Lib.hid (gb_new (gb_new (gb_new hW k1 hgN) k2 hgN) k3 hgN)
        clear hgN hW k1 k2 k3 r1 r2 r3 hs2 hc2 hd2
        rw [ends_is]
        go_simp
        clear q0 q1 q2 u0 u1 u2 hr
        go_upto_region 9 with fail
        refine Td.named (fun W' => wr.grownBy W' none ∧ Row W' gq 80 #[.slice A2 n2 c2, .slice B2 m2 d2, .int .i64 (doS (gr.at_ (dN : Int)) (dN : Int) oo).2] ∧ SL W' A2 n2 B2 m2 (doS (gr.at_ (dN : Int)) (dN : Int) oo).1) ⟨Gw.out, Hr3.out, Hs2.out⟩ ?_
        rintro W8 ⟨hg8, hrow8, hs8⟩
        clear Gw Hr3 Hs2
        have HG8 := Lib.hid hg8
        have Hrow8 := Lib.hid hrow8
        have Hs8 := Lib.hid hs8
        have p2 := hrow8.at_ (i := 2) rfl
        obtain ⟨E, hE⟩ : ∃ E, (doS (gr.at_ (dN : Int)) (dN : Int) oo).2 = E := ⟨_, rfl⟩
        have HE := Lib.hid hE
        rw [hE] at p2
        obtain ⟨D, hD⟩ : ∃ D, (doS (gr.at_ (dN : Int)) (dN : Int) oo).1 = D := ⟨_, rfl⟩
        rw [hD] at Hs8
        have HDd2 := Lib.hid hD
        clear hE hD hg8 hrow8 hs8
        by_cases h0E : E = 0
        · have f1 : (E == 0) = true := by rw [h0E]; rfl
          have hz : (doS (gr.at_ (dN : Int)) (dN : Int) oo).2 = 0 := HE.out.trans h0E
          have hmd := HFine.out.may _ (in4_nat HdN.out)
          have hmay := do_may hmd hz
          rw [HDd2.out] at hmay
          have hstep : stepM (gr.at_ (dN : Int)) (dN : Int) oo = joinS (gr.at_ (dN : Int)) D := by unfold stepM; rw [if_pos hz, HDd2.out]
          have hlowD : Low D (k + 1) := fun d m hh => by
            have h := stepM_low (dev := (dN : Int)) (o := oo) hmd (HFine.out.low _ (in4_nat HdN.out)) d m
            rw [hstep] at h
            exact h ((join_seen hmd.ss hmay.1.ss d m).2 (.inr hh))
          have hsh := hlowD.short hmay.1
          have hn2 : n2 ≤ 10000 := by have := Hs8.out.1.1; have := Hlt.out; have := HK.out.1; omega
          have hm2 : m2 ≤ 10000 := by have := Hs8.out.2.1; have := Hlt.out; have := HK.out.1; omega
          have Hst2 : Hid (apartK ns (k + 1) = gr.set_ (dN : Int) (joinS (gr.at_ (dN : Int)) D)) := by show _ = _; rw [Hst.out, hstep]
          have HJ10 : Hid (∀ W, W8.grownBy W none → Calls Tryz.prog 35 #[.agg #[.slice A1 n1 cc1, .slice B1 m1 dd1], .agg #[.slice A2 n2 c2, .slice B2 m2 d2]] W (States (joinS (gr.at_ (dN : Int)) D) W)) := fun W hW => refJoin_any A1 B1 A2 B2 n1 cc1 m1 dd1 n2 c2 m2 d2 _ D W (HDd.out W (gb_none HG8.out hW)).2.2 (Hs8.out.keep hW) hmd.ss hmay.1.ss (by have := Hn1.out; omega) (by have := Hn1.out; omega) hn2 hm2
          clear hz hmd hmay hstep hlowD hsh hn2 hm2 h0E
          go_upto_region 10 with fail
          clear f1 p2
          apply wp_region_told_tail (le := fun a b => a.grownBy b none) 10 _ [isV _, isV _, isV _, isV _, isV _, isV _, isV _, isV _, stateV (joinS (gr.at_ (dN : Int)) D), isV _]
          case hL => rfl
          case hz => rfl
          case hLd => rfl
          case hLg => rfl
          case hLw => kernel_rfl
          case hlen => rfl
          case hn => rfl
          case hm => kernel_rfl
          case hB => kernel_rfl
          case ht => exact fun _ _ _ h k => gb_none h k
          case hw => exact gb_drew (gb_refl _ _)
          -- 0: law.go:37 move
          apply told_is
          · intro W f hW hE h0 K hK
            have e3 := h0 3 (by kernel_rfl)
            conv at e3 => rhs; whnf
            clear hE h0
            refine yes_of (want_free rfl) ?_
            go_simp; exact hK _ _ (gb_refl _ _) rfl
          -- 1: law.go:37 move
          apply told_is
          · intro W f hW hE h0 K hK
            have e5 := h0 5 (by kernel_rfl)
            conv at e5 => rhs; whnf
            clear hE h0
            refine yes_of (want_free rfl) ?_
            go_simp; exact hK _ _ (gb_refl _ _) rfl
          -- 2: law.go:37 move
          apply told_is
          · intro W f hW hE h0 K hK
            have e3 := h0 3 (by kernel_rfl)
            conv at e3 => rhs; whnf
            clear hE h0
            refine yes_of (want_free rfl) ?_
            go_simp; exact hK _ _ (gb_refl _ _) rfl
          -- 3: law.go:37 move
          apply told_is
          · intro W f hW hE h0 K hK
            have e5 := h0 5 (by kernel_rfl)
            conv at e5 => rhs; whnf
            clear hE h0
            refine yes_of (want_free rfl) ?_
            go_simp; exact hK _ _ (gb_refl _ _) rfl
          -- 4: law.go:37 indexAddr
          apply told_is
          · intro W f hW hE h0 K hK
            have e70 : f 70 = _ := hE 1 70 _ rfl (by kernel_rfl)
            have e71 : f 71 = _ := hE 0 71 _ rfl (by kernel_rfl)
            clear hE h0
            refine yes_of (want_free rfl) ?_
            obtain ⟨b0, b1, b2⟩ := HBd.out
            go_simp; exact hK _ _ (gb_refl _ _) rfl
          -- 5: law.go:37 load
          apply told_is
          · intro W f hW hE h0 K hK
            have e72 : f 72 = _ := hE 0 72 _ rfl (by kernel_rfl)
            clear hE h0
            refine yes_of (want_free rfl) ?_
            obtain ⟨z0, z1, _⟩ := HDd.out W (gb_none HG8.out hW)
            go_simp; exact hK _ _ (gb_refl _ _) rfl
          -- 6: law.go:37 fieldAddr
          apply told_is
          · intro W f hW hE h0 K hK
            have e6 := h0 6 (by kernel_rfl)
            conv at e6 => rhs; whnf
            clear hE h0
            refine yes_of (want_free rfl) ?_
            go_simp; exact hK _ _ (gb_refl _ _) rfl
          -- 7: law.go:37 load
          apply told_is
          · intro W f hW hE h0 K hK
            have e74 : f 74 = _ := hE 0 74 _ rfl (by kernel_rfl)
            clear hE h0
            refine yes_of (want_free rfl) ?_
            have p0 := (Hrow8.out.kept hW (by simp)).at_ (i := 0) rfl
            have p1 := (Hrow8.out.kept hW (by simp)).at_ (i := 1) rfl
            go_simp; exact hK _ _ (gb_refl _ _) rfl
          -- 8: law.go:37 call
          apply told_at stateV_stays
          · intro W f hW hE h0 K hK
            have e73 : f 73 = _ := hE 2 73 _ rfl (by kernel_rfl)
            have e75 : f 75 = _ := hE 0 75 _ rfl (by kernel_rfl)
            clear hE h0
            refine yes_of (want_free rfl) ?_
            go_simp
            refine (HJ10.out W hW).mono ?_
            rintro e w1' ⟨A2, n2, c2, B2, m2, d2, rfl, h1, h2, h3, g⟩
            exact ⟨_, rfl, hK _ _ g ⟨A2, n2, c2, B2, m2, d2, rfl, h1, h2, h3⟩⟩
          -- 9: law.go:37 indexAddr
          apply told_is
          · intro W f hW hE h0 K hK
            have e68 : f 68 = _ := hE 8 68 _ rfl (by kernel_rfl)
            have e69 : f 69 = _ := hE 7 69 _ rfl (by kernel_rfl)
            clear hE h0
            refine yes_of (want_free rfl) ?_
            obtain ⟨b0, b1, b2⟩ := HBd.out
            go_simp; exact hK _ _ (gb_refl _ _) rfl
          intro W f hW hA
          simp only [lexIn, Act.put, List.setIfInBounds_toArray, List.set_cons_zero, List.set_cons_succ]
          have e76 := hA 1 (some 76) _ rfl
          have e77 : f 77 = _ := hA 0 (some 77) _ rfl
          rw [e77]
          clear hA
          obtain ⟨A3, n3, c3, B3, m3, d3, e76, hs3, hc3, hd3⟩ := e76
          rw [e76]
          have HGw : Hid (GR W gl gr) := HGR.out.keep (gb_none HG8.out hW)
          have Hgw : Hid (w.grownBy W none) := gb_none (gb_none Hg.out HG8.out) hW
          obtain ⟨z0, z1, _⟩ := HDd.out W (gb_none HG8.out hW)
          have q0 := HGw.out.free (dN * 2)
          have q1 := HGw.out.free (dN * 2 + 1)
          have HP : Hid (GR ((W.setCell ⟨gl, dN * 2, none⟩ (.slice A3 n3 c3)).setCell ⟨gl, dN * 2 + 1, none⟩ (.slice B3 m3 d3)) gl (apartK ns (k + 1))) := by
            have h := HGw.out.put HdN.out hs3 hc3 hd3
            rw [Hst2.out]
            exact h
          have Hgn : Hid (w.grownBy ((W.setCell ⟨gl, dN * 2, none⟩ (.slice A3 n3 c3)).setCell ⟨gl, dN * 2 + 1, none⟩ (.slice B3 m3 d3)) none) := gb_new Hgw.out (GR.grown _ _ _ _ _) Hgl.out
          clear hs3 hc3 hd3 hW
          rw [ends_is]
          go_simp
          clear q0 q1 z0 z1
          have t3 := Ht3.out
          go_wp2_with fail
          go_roundw
          case rel => exact ⟨k + 1, q + 3, by have := Hq.out; omega, by have := Hlt.out; omega, rfl, HP.out, Hgn.out⟩
          case measure => simp [intOf]; have := Hq.out; have := Hlt.out; omega
        · have f1 : (E == 0) = false := by rw [beq_eq_false_iff_ne]; exact h0E
          have hst : apartK ns (k + 1) = gr := by
            rw [Hst.out]
            have h1 : stepM (gr.at_ (dN : Int)) (dN : Int) oo = gr.at_ (dN : Int) := by unfold stepM; rw [if_neg (by rw [HE.out]; exact h0E)]
            rw [h1, Grp.set_at (in4_nat HdN.out)]
          have Hst3 := Lib.hid hst
          have t3 := Ht3.out
          clear h0E hst
          go_wp2_with fail
          go_roundw
          case rel => exact ⟨k + 1, q + 3, by have := Hq.out; omega, by have := Hlt.out; omega, rfl, by rw [Hst3.out]; exact HGR.out.keep HG8.out, gb_none Hg.out HG8.out⟩
          case measure => simp [intOf]; have := Hq.out; have := Hlt.out; omega
    · have hkK : k = K := by omega
      subst hkK
      have t4 : IntKind.i64.wrap ((q : Int) + 2) = ((q + 2 : Nat) : Int) := by rw [IntKind.wrap_i64]; have := HK.out.1; omega
      have hout : ¬ (q + 2 < n ∧ q < 120) := fun h => by have := (HK.out.2 k).2 ⟨by omega, by omega⟩; omega
      have HGf := Lib.hid hG
      have Hg := Lib.hid hg
      clear hG hg hlt hq hk
      by_cases hz : q + 2 < n
      · have d1 : decide (q + 2 < n) = true := decide_eq_true hz
        have d2 : decide (((q + 2 : Nat) : Int) < (n : Int)) = true := decide_eq_true (by omega)
        have d5 : decide ((q : Int) + 2 < (n : Int)) = true := decide_eq_true (by omega)
        have d3 : decide ((q : Int) < 120) = false := decide_eq_false (by omega)
        have d4 : decide (q < 120) = false := decide_eq_false (by omega)
        clear hz hout
        go_wp2_with fail
        go_ret
        exact ⟨gl, rfl, HGf.out, Hgl.out, Hg.out⟩
      · have d1 : decide (q + 2 < n) = false := decide_eq_false hz
        have d2 : decide (((q + 2 : Nat) : Int) < (n : Int)) = false := decide_eq_false (by omega)
        have d5 : decide ((q : Int) + 2 < (n : Int)) = false := decide_eq_false (by omega)
        clear hz hout
        go_wp2_with fail
        go_ret
        exact ⟨gl, rfl, HGf.out, Hgl.out, Hg.out⟩
end Go.Proofs.YthijiefopcnclaaGreatDoor.Dt
