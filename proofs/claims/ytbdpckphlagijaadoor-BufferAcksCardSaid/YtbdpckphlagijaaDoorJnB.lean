/- Four states in one block. Joins of many states, one behind the other and by halves; lists of states in memory. All: the program's by halves, the document's one behind the other. The laws' has. What the laws of stage 9 call: awake. The laws' Apart: some states that devices come to, each by itself. -/
import Derived.Test.YtbdpckphlagijaaDoorFtMake
import Derived.Test.YtbdpckphlagijaaDoorFtB
import Derived.Test.YtbdpckphlagijaaDoorJnA
import Derived.Test.YtbdpckphlagijaaDoorFtC
import Derived.Test.YtbdpckphlagijaaDoorFtD
namespace Go.Proofs.YtbdpckphlagijaaDoor.Dt
open Go Go.RowKit Go.Proofs.YtbdpckphlagijaaDoor.Mm Go.Proofs.YtbdpckphlagijaaDoor.Td

/-- Runs and facts stay where a block of slices alone is written. -/
theorem sl_besideN {w w' : World} {A B : Option Addr} {n m h : Nat} {s : St} {t : TypeId} {cs : Array Value} (hr : SL w A n B m s) (hg : w.grownBy w' (some h)) (hrow : Row w h t cs) (hcs : ∀ (j : Nat) (v : Value), cs[j]? = some v → ∃ X a b, v = .slice X a b) : SL w' A n B m s := by
  refine ⟨⟨hr.1.1, fun h0 => ?_⟩, ⟨hr.2.1, fun h0 => ?_⟩⟩
  · obtain ⟨g, o, e, hl, hc⟩ := hr.1.2 h0
    obtain ⟨x, hx⟩ : ∃ x, s.seen[0]? = some x := ⟨_, List.getElem?_eq_getElem (by rw [hr.1.1]; exact h0)⟩
    have hne : some g ≠ some h := by
      intro e2
      obtain rfl := Option.some.inj e2
      have h1 := (hc 0 x hx).1
      rw [hrow.get] at h1
      obtain ⟨_, _, _, e3⟩ := hcs _ _ h1
      cases e3
    refine ⟨g, o, e, Nat.lt_of_lt_of_le hl hg.size, fun i y hy => ?_⟩
    have hb := hg.block g hl hne
    obtain ⟨c0, c1, c2⟩ := hc i y hy
    exact ⟨(World.cell?_of_block (a := ⟨g, o + i * 3, none⟩) hb).trans c0, (World.cell?_of_block (a := ⟨g, o + i * 3 + 1, none⟩) hb).trans c1, (World.cell?_of_block (a := ⟨g, o + i * 3 + 2, none⟩) hb).trans c2⟩
  · obtain ⟨g, o, e, hl, hc⟩ := hr.2.2 h0
    obtain ⟨x, hx⟩ : ∃ x, s.facts[0]? = some x := ⟨_, List.getElem?_eq_getElem (by rw [hr.2.1]; exact h0)⟩
    have hne : some g ≠ some h := by
      intro e2
      obtain rfl := Option.some.inj e2
      have h1 := (hc 0 x hx).1
      rw [hrow.get] at h1
      obtain ⟨_, _, _, e3⟩ := hcs _ _ h1
      cases e3
    exact ⟨g, o, e, Nat.lt_of_lt_of_le hl hg.size, fun i y hy => (hc i y hy).kept hl hg hne⟩
/-- The block gl holds the four states of a group. -/
def GR (W : World) (gl : Nat) (g : Grp) : Prop := ∃ cs : Array Value, Row W gl 28 cs ∧ cs.size = 8 ∧ ∀ i : Nat, i < 4 → ∃ (A : Option Addr) (n c : Nat) (B : Option Addr) (m d : Nat), cs[i * 2]? = some (.slice A n c) ∧ cs[i * 2 + 1]? = some (.slice B m d) ∧ SL W A n B m (g.at_ (i : Int)) ∧ n ≤ c ∧ m ≤ d
section
variable {W W' : World} {gl : Nat} {g : Grp}
theorem GR.keep (h : GR W gl g) (hg : W.grownBy W' none) : GR W' gl g := by
  obtain ⟨cs, hr, hs, hi⟩ := h
  exact ⟨cs, hr.kept hg (by simp), hs, fun i h4 => by obtain ⟨A, n, c, B, m, d, h1, h2, h3, h4, h5⟩ := hi i h4; exact ⟨A, n, c, B, m, d, h1, h2, h3.keep hg, h4, h5⟩⟩
theorem GR.lt (h : GR W gl g) : gl < W.heap.size := by obtain ⟨cs, hr, _⟩ := h; exact hr.lt
theorem GR.free (h : GR W gl g) (p : Nat) : W.frozen? ⟨gl, p, none⟩ = false := by obtain ⟨cs, hr, _⟩ := h; exact hr.free p
/-- What stands at place i, in whatever greater world. -/
theorem GR.get (h : GR W gl g) {i : Nat} (hi : i < 4) : ∃ (A : Option Addr) (n c : Nat) (B : Option Addr) (m d : Nat), n ≤ c ∧ m ≤ d ∧ n = (g.at_ (i : Int)).seen.length ∧ m = (g.at_ (i : Int)).facts.length ∧ ∀ W', W.grownBy W' none → W'.cell? ⟨gl, i * 2, none⟩ = some (.slice A n c) ∧ W'.cell? ⟨gl, i * 2 + 1, none⟩ = some (.slice B m d) ∧ SL W' A n B m (g.at_ (i : Int)) := by
  obtain ⟨cs, hr, hs, ha⟩ := h
  obtain ⟨A, n, c, B, m, d, h1, h2, h3, h4, h5⟩ := ha i hi
  exact ⟨A, n, c, B, m, d, h4, h5, h3.1.1.symm, h3.2.1.symm, fun W' hW => ⟨(hr.kept hW (by simp)).at_ h1, (hr.kept hW (by simp)).at_ h2, h3.keep hW⟩⟩
theorem Grp.set_at {g : Grp} {i : Int} (hi : In4 i) : g.set_ i (g.at_ i) = g := by rcases hi with rfl | rfl | rfl | rfl <;> rfl
theorem in4_nat {i : Nat} (h : i < 4) : In4 (i : Int) := by unfold In4; omega
theorem GR.slices {cs : Array Value} (hs : cs.size = 8) (ha : ∀ i : Nat, i < 4 → ∃ (A : Option Addr) (n c : Nat) (B : Option Addr) (m d : Nat), cs[i * 2]? = some (.slice A n c) ∧ cs[i * 2 + 1]? = some (.slice B m d) ∧ SL W A n B m (g.at_ (i : Int)) ∧ n ≤ c ∧ m ≤ d) : ∀ (j : Nat) (v : Value), cs[j]? = some v → ∃ X a b, v = .slice X a b := fun j v hv => by
  have hj : j < 8 := by have := (Array.getElem?_eq_some_iff.1 hv).1; omega
  obtain ⟨A, n, c, B, m, d, h1, h2, _⟩ := ha (j / 2) (by omega)
  by_cases h0 : j % 2 = 0
  · rw [show j / 2 * 2 = j by omega, hv] at h1
    exact ⟨A, n, c, Option.some.inj h1⟩
  · rw [show j / 2 * 2 + 1 = j by omega, hv] at h2
    exact ⟨B, m, d, Option.some.inj h2⟩
/-- A state is put at place i. -/
theorem GR.put (h : GR W gl g) {i : Nat} (hi : i < 4) {A B : Option Addr} {n c m d : Nat} {s : St} (hs : SL W A n B m s) (hc : n ≤ c) (hd : m ≤ d) : GR ((W.setCell ⟨gl, i * 2, none⟩ (.slice A n c)).setCell ⟨gl, i * 2 + 1, none⟩ (.slice B m d)) gl (g.set_ (i : Int) s) := by
  obtain ⟨cs, hr, h8, ha⟩ := h
  have hall := GR.slices h8 ha
  have hall2 : ∀ (j : Nat) (v : Value), (cs.setIfInBounds (i * 2) (.slice A n c))[j]? = some v → ∃ X a b, v = .slice X a b := fun j v hv => by
    rw [Array.getElem?_setIfInBounds] at hv
    split at hv
    · split at hv
      · exact ⟨A, n, c, (Option.some.inj hv).symm⟩
      · cases hv
    · exact hall j v hv
  have k1 := gb_set1 W gl (i * 2) (.slice A n c)
  have r1 := hr.set_ (i * 2) (.slice A n c)
  have k2 := gb_set1 (W.setCell ⟨gl, i * 2, none⟩ (.slice A n c)) gl (i * 2 + 1) (.slice B m d)
  have keep : ∀ {A' B' : Option Addr} {n' m' : Nat} {t : St}, SL W A' n' B' m' t → SL ((W.setCell ⟨gl, i * 2, none⟩ (.slice A n c)).setCell ⟨gl, i * 2 + 1, none⟩ (.slice B m d)) A' n' B' m' t := fun h => sl_besideN (sl_besideN h k1 hr hall) k2 r1 hall2
  refine ⟨_, r1.set_ (i * 2 + 1) (.slice B m d), by simpa using h8, fun j hj => ?_⟩
  rw [Grp.at_set (in4_nat hi) (in4_nat hj)]
  by_cases e : i = j
  · subst e
    rw [if_pos rfl]
    refine ⟨A, n, c, B, m, d, ?_, ?_, keep hs, hc, hd⟩
    · rw [Array.getElem?_setIfInBounds_ne (by omega), Array.getElem?_setIfInBounds_self_of_lt (by omega)]
    · rw [Array.getElem?_setIfInBounds_self_of_lt (by simp; omega)]
  · rw [if_neg (by omega)]
    obtain ⟨A', n', c', B', m', d', h1, h2, h3, h4, h5⟩ := ha j hj
    refine ⟨A', n', c', B', m', d', ?_, ?_, keep h3, h4, h5⟩
    · rw [Array.getElem?_setIfInBounds_ne (by omega), Array.getElem?_setIfInBounds_ne (by omega)]; exact h1
    · rw [Array.getElem?_setIfInBounds_ne (by omega), Array.getElem?_setIfInBounds_ne (by omega)]; exact h2
theorem GR.grown (W : World) (gl i : Nat) (u v : Value) : W.grownBy ((W.setCell ⟨gl, i * 2, none⟩ u).setCell ⟨gl, i * 2 + 1, none⟩ v) (some gl) := gb_then (gb_set1 _ _ _ _) (gb_set1 _ _ _ _)
/-- Four empty states. -/
theorem gr_new (w : World) : GR (w.alloc (.cells #[.slice none 0 0, .slice none 0 0, .slice none 0 0, .slice none 0 0, .slice none 0 0, .slice none 0 0, .slice none 0 0, .slice none 0 0] 28)) w.heap.size ⟨none_, none_, none_, none_⟩ := by
  refine ⟨_, Row.new _ _ _, rfl, fun i hi => ⟨none, 0, 0, none, 0, 0, ?_, ?_, ?_, Nat.le_refl _, Nat.le_refl _⟩⟩
  · match i, hi with
    | 0, _ => rfl
    | 1, _ => rfl
    | 2, _ => rfl
    | 3, _ => rfl
  · match i, hi with
    | 0, _ => rfl
    | 1, _ => rfl
    | 2, _ => rfl
    | 3, _ => rfl
  · have e : (⟨none_, none_, none_, none_⟩ : Grp).at_ (i : Int) = none_ := by unfold Grp.at_; repeat (first | rfl | split)
    rw [e]; exact ⟨RL.none _ _, FL.none _ _⟩
end
end Go.Proofs.YtbdpckphlagijaaDoor.Dt

namespace Go.Proofs.YtbdpckphlagijaaDoor.Dt
open Go Go.RowKit Go.Proofs.YtbdpckphlagijaaDoor.Mm Go.Proofs.YtbdpckphlagijaaDoor.Td

theorem mem_join (a b : St) (f : Fc) : f ∈ (joinS a b).facts ↔ (f ∈ a.facts ∧ (!hasB b.seen f.d f.n || atB b.facts f.d f.n) = true) ∨ (f ∈ b.facts ∧ (!hasB a.seen f.d f.n) = true) := joinF_mem a b f
theorem hasB_join {a b : St} (ha : SS a) (hb : SS b) (d n : Int) : hasB (joinS a b).seen d n = (hasB a.seen d n || hasB b.seen d n) := by
  rw [Bool.eq_iff_iff, hasB_iff, join_seen ha hb, Bool.or_eq_true, hasB_iff, hasB_iff]
theorem nine : ∀ fa fb fc ha hb hc ta tb tc : Bool, (fa → ta) → (fb → tb) → (fc → tc) → (ta → ha) → (tb → hb) → (tc → hc) →
    (((fa && (!hb || tb) || fb && !ha) && (!hc || tc) || fc && !(ha || hb)) = (fa && (!(hb || hc) || (tb && tc || tb && !hc || tc && !hb)) || (fb && (!hc || tc) || fc && !hb) && !ha)) := by decide
theorem boolOf (p : Prop) : ∃ b : Bool, b = true ↔ p := by
  by_cases h : p
  · exact ⟨true, by simp [h]⟩
  · exact ⟨false, by simp [h]⟩
/-- Joins of any three, whether or not they agree: of a fact of one dot the first one's stays. -/
theorem join_assoc_any {a b c : St} (ha : SS a) (hb : SS b) (hc : SS c) : joinS (joinS a b) c = joinS a (joinS b c) := by
  have h1 := join_ss ha hb
  have h2 := join_ss hb hc
  refine st_canon (join_ss h1 hc) (join_ss ha h2) (fun d n => ?_) fun f => ?_
  · rw [join_seen h1 hc, join_seen ha hb, join_seen ha h2, join_seen hb hc]; exact or_assoc
  · have at_of : ∀ {s : St} {g : Fc}, g ∈ s.facts → atB s.facts g.d g.n = true := fun h => (atB_iff _ _ _).2 ⟨_, h, rfl, rfl⟩
    have has_of : ∀ {s : St}, SS s → atB s.facts f.d f.n = true → hasB s.seen f.d f.n = true := fun hs h => by
      obtain ⟨g, hg, e1, e2⟩ := (atB_iff _ _ _).1 h
      rw [hasB_iff, ← e1, ← e2]; exact hs.2.1 g hg
    obtain ⟨fa, hfa⟩ := boolOf (f ∈ a.facts)
    obtain ⟨fb, hfb⟩ := boolOf (f ∈ b.facts)
    obtain ⟨fc, hfc⟩ := boolOf (f ∈ c.facts)
    have key := nine fa fb fc (hasB a.seen f.d f.n) (hasB b.seen f.d f.n) (hasB c.seen f.d f.n) (atB a.facts f.d f.n) (atB b.facts f.d f.n) (atB c.facts f.d f.n)
      (fun h => at_of (hfa.1 h)) (fun h => at_of (hfb.1 h)) (fun h => at_of (hfc.1 h)) (has_of ha) (has_of hb) (has_of hc)
    rw [mem_join, mem_join a b, hasB_join ha hb, mem_join a, mem_join b c, hasB_join hb hc, join_at hb hc, ← hfa, ← hfb, ← hfc]
    rw [Bool.eq_iff_iff] at key
    simp only [Bool.or_eq_true, Bool.and_eq_true] at key ⊢
    exact key
theorem allS_ss : ∀ {l : List St} {a : St}, SS a → (∀ s ∈ l, SS s) → SS (l.foldl joinS a)
  | [], _, h, _ => h
  | s :: l, a, h, hl => allS_ss (l := l) (a := joinS a s) (join_ss h (hl s (by simp))) fun t ht => hl t (by simp [ht])
theorem all_from : ∀ {l : List St} {a : St}, SS a → (∀ s ∈ l, SS s) → l.foldl joinS a = joinS a (allS l)
  | [], a, h, _ => (join_none h).1.symm
  | s :: l, a, h, hl => by
    have hs := hl s (by simp)
    have hl2 : ∀ t ∈ l, SS t := fun t ht => hl t (by simp [ht])
    have hall : SS (allS l) := allS_ss none_ss hl2
    show l.foldl joinS (joinS a s) = joinS a (l.foldl joinS (joinS none_ s))
    rw [all_from (join_ss h hs) hl2, all_from (join_ss none_ss hs) hl2, (join_none hs).2, join_assoc_any h hs hall]
theorem allS_append {l k : List St} (hl : ∀ s ∈ l, SS s) (hk : ∀ s ∈ k, SS s) : allS (l ++ k) = joinS (allS l) (allS k) := by
  unfold allS
  rw [List.foldl_append]
  exact all_from (allS_ss none_ss hl) hk
theorem allS_halves {l : List St} (hl : ∀ s ∈ l, SS s) (h : Nat) : allS l = joinS (allS (l.take h)) (allS (l.drop h)) := by
  rw [← allS_append (fun s hs => hl s (List.mem_of_mem_take hs)) (fun s hs => hl s (List.mem_of_mem_drop hs)), List.take_append_drop]
/-- A state lies here, as two slices. -/
def StAt (W : World) (g o : Nat) (s : St) : Prop := ∃ (A : Option Addr) (n c : Nat) (B : Option Addr) (m d : Nat), W.cell? ⟨g, o, none⟩ = some (.slice A n c) ∧ W.cell? ⟨g, o + 1, none⟩ = some (.slice B m d) ∧ SL W A n B m s ∧ n ≤ c ∧ m ≤ d
theorem StAt.keep {W W' : World} {g o : Nat} {s : St} (h : StAt W g o s) (hg : g < W.heap.size) (k : W.grownBy W' none) : StAt W' g o s := by
  obtain ⟨A, n, c, B, m, d, h1, h2, h3, h4, h5⟩ := h
  have hb := k.block g hg (by simp)
  exact ⟨A, n, c, B, m, d, (World.cell?_of_block (a := ⟨g, o, none⟩) hb).trans h1, (World.cell?_of_block (a := ⟨g, o + 1, none⟩) hb).trans h2, h3.keep k, h4, h5⟩
/-- The slice at A, of n states, reads as these. -/
def AL (W : World) (A : Option Addr) (n : Nat) (ls : List St) : Prop := ls.length = n ∧ (0 < n → ∃ g o, A = some ⟨g, o, none⟩ ∧ g < W.heap.size ∧ ∀ i s, ls[i]? = some s → StAt W g (o + i * 2) s)
section
variable {W W' : World} {A : Option Addr} {n : Nat} {ls : List St}
theorem AL.keep (h : AL W A n ls) (k : W.grownBy W' none) : AL W' A n ls := by
  refine ⟨h.1, fun h0 => ?_⟩
  obtain ⟨g, o, e, hg, hs⟩ := h.2 h0
  exact ⟨g, o, e, Nat.lt_of_lt_of_le hg k.size, fun i s hi => (hs i s hi).keep hg k⟩
theorem AL.take (h : AL W A n ls) {m : Nat} (hm : m ≤ n) : AL W A m (ls.take m) := by
  refine ⟨by rw [List.length_take, h.1]; omega, fun h0 => ?_⟩
  obtain ⟨g, o, e, hg, hs⟩ := h.2 (by omega)
  refine ⟨g, o, e, hg, fun i s hi => hs i s ?_⟩
  have hil : i < m := by have := (List.getElem?_eq_some_iff.1 hi).1; rw [List.length_take] at this; omega
  rwa [List.getElem?_take, if_pos hil] at hi
theorem AL.drop {g o : Nat} (h : AL W (some ⟨g, o, none⟩) n ls) {m : Nat} (hm : m ≤ n) : AL W (some ⟨g, o + m * 2, none⟩) (n - m) (ls.drop m) := by
  refine ⟨by rw [List.length_drop, h.1], fun h0 => ?_⟩
  obtain ⟨g', o', e, hg, hs⟩ := h.2 (by omega)
  cases e
  refine ⟨_, _, rfl, hg, fun i s hi => ?_⟩
  rw [List.getElem?_drop] at hi
  have := hs _ s hi
  rwa [show o + (m + i) * 2 = o + m * 2 + i * 2 by omega] at this
/-- What stands at place i, in whatever greater world. -/
theorem AL.get {g o : Nat} (h : AL W (some ⟨g, o, none⟩) n ls) {i : Nat} {s : St} (hi : ls[i]? = some s) : ∃ (A : Option Addr) (n c : Nat) (B : Option Addr) (m d : Nat), n ≤ c ∧ m ≤ d ∧ n = s.seen.length ∧ m = s.facts.length ∧ ∀ W', W.grownBy W' none → W'.cell? ⟨g, o + i * 2, none⟩ = some (.slice A n c) ∧ W'.cell? ⟨g, o + i * 2 + 1, none⟩ = some (.slice B m d) ∧ SL W' A n B m s := by
  have hn : 0 < n := by have h1 := (List.getElem?_eq_some_iff.1 hi).1; have := h.1; omega
  obtain ⟨g', o', e, hg, hs⟩ := h.2 hn
  cases e
  obtain ⟨A, n, c, B, m, d, h1, h2, h3, h4, h5⟩ := hs i s hi
  refine ⟨A, n, c, B, m, d, h4, h5, h3.1.1.symm, h3.2.1.symm, fun W' hW => ?_⟩
  have hb := hW.block _ hg (by simp)
  exact ⟨(World.cell?_of_block (a := ⟨_, _, none⟩) hb).trans h1, (World.cell?_of_block (a := ⟨_, _, none⟩) hb).trans h2, h3.keep hW⟩
end
def Grp.l (g : Grp) : List St := [g.s0, g.s1, g.s2, g.s3]
theorem GR.al {W : World} {gl : Nat} {g : Grp} (h : GR W gl g) : AL W (some ⟨gl, 0, none⟩) 4 g.l := by
  refine ⟨rfl, fun _ => ⟨gl, 0, rfl, h.lt, fun i s hi => ?_⟩⟩
  have h4 : i < 4 := (List.getElem?_eq_some_iff.1 hi).1
  obtain ⟨A, n, c, B, m, d, k1, k2, k3, k4, k5⟩ := h.get h4
  obtain ⟨c0, c1, c2⟩ := k5 W (gb_refl _ _)
  have e : g.at_ (i : Int) = s := by
    match i, h4, hi with
    | 0, _, hi => exact Option.some.inj hi
    | 1, _, hi => exact Option.some.inj hi
    | 2, _, hi => exact Option.some.inj hi
    | 3, _, hi => exact Option.some.inj hi
  rw [e] at c2
  exact ⟨A, n, c, B, m, d, by rw [Nat.zero_add]; exact c0, by rw [Nat.zero_add]; exact c1, c2, k1, k2⟩
/-- How long a state is. -/
def Lens (s : St) : Prop := s.seen.length ≤ 10000 ∧ s.facts.length ≤ 10000
/-- All parts of a list, the whole apart, come to something that is not too long. -/
def Parts (ls : List St) : Prop := (∀ s ∈ ls, SS s ∧ Lens s) ∧ ∀ i j, j < ls.length → Lens (allS ((ls.drop i).take j))
theorem Parts.ss {ls : List St} (h : Parts ls) : ∀ s ∈ ls, SS s := fun s hs => (h.1 s hs).1
theorem Parts.part {ls : List St} (h : Parts ls) {i j : Nat} (hj : j < ls.length) : Parts ((ls.drop i).take j) := by
  refine ⟨fun s hs => h.1 s (List.mem_of_mem_drop (List.mem_of_mem_take hs)), fun a b hb => ?_⟩
  rw [List.length_take] at hb
  have := h.2 (i + a) (min b (j - a)) (by omega)
  rw [← List.drop_drop, ← List.take_take] at this
  rw [List.drop_take, List.take_take]
  rwa [List.take_take] at this
end Go.Proofs.YtbdpckphlagijaaDoor.Dt

namespace Go.Proofs.YtbdpckphlagijaaDoor.Dt
open Go Go.RowKit Go.Proofs.YtbdpckphlagijaaDoor.Mm Go.Proofs.YtbdpckphlagijaaDoor.Td

attribute [local go_sem] Td.upon_value Td.upon_skip Td.upon_enter Td.upon_row Td.look_tmp Td.look_const Td.look_func Td.look_global
set_option maxHeartbeats 8000000 in
set_option maxRecDepth 100000 in
theorem pAll_nil (A : Option Addr) (c : Nat) (w : World) : Calls Tryd.prog 18 #[.slice A 0 c] w (States none_ w) := by
  obtain ⟨h0, hh0⟩ : ∃ h0, w.heap.size = h0 := ⟨_, rfl⟩
  have Hh0 : Hid (w.heap.size ≤ h0) := by show _ ≤ _; omega
  obtain ⟨W0, hW0⟩ : ∃ W0, w.alloc (.cells #[.slice none 0 0, .slice none 0 0] 28) = W0 := ⟨_, rfl⟩
  have G0 : w.grownBy W0 none := by rw [← hW0]; exact gb_alloc (gb_refl _ _) _
  have HG := Lib.hid G0
  have HR0 : Hid (Row W0 h0 28 #[.slice none 0 0, .slice none 0 0]) := by rw [← hW0, ← hh0]; exact Row.new _ _ _
  have e0 := HR0.out.at_ (i := 0) rfl
  have e1 := HR0.out.at_ (i := 1) rfl
  have f0 := HR0.out.free 0
  have f1 := HR0.out.free 1
  clear G0
  go_enter Tryd.func18, Tryd.ntmps18
  go_upto_region 1 with fail
  clear hW0 hh0
  go_wp2_with fail
  have g1 := gb_set1 W0 h0 0 (.slice none 0 0)
  have x1 := HR0.out.set_ 0 (.slice none 0 0)
  have g2 := gb_set1 (W0.setCell ⟨h0, 0, none⟩ (.slice none 0 0)) h0 1 (.slice none 0 0)
  exact bodyPost_ret (results_cell_row rfl _ _ h0 28 _ (0, 0) _ rfl (x1.set_ 1 (.slice none 0 0)) Tryd.underlying28 rfl (by kernel_rfl)) rfl ⟨none, 0, 0, none, 0, 0, rfl, ⟨RL.none _ _, FL.none _ _⟩, Nat.le_refl _, Nat.le_refl _, gb_new (gb_new HG.out g1 Hh0.out) g2 Hh0.out⟩
set_option maxHeartbeats 8000000 in
set_option maxRecDepth 100000 in
theorem pAll_one (A : Option Addr) (c : Nat) (s : St) (w : World) (ha : AL w A 1 [s]) (hs : SS s) (hl : Lens s) : Calls Tryd.prog 18 #[.slice A 1 c] w (States s w) := by
  obtain ⟨h0, hh0⟩ : ∃ h0, w.heap.size = h0 := ⟨_, rfl⟩
  have Hh0 : Hid (w.heap.size ≤ h0) := by show _ ≤ _; omega
  obtain ⟨W0, hW0⟩ : ∃ W0, w.alloc (.cells #[.slice none 0 0, .slice none 0 0] 28) = W0 := ⟨_, rfl⟩
  have G0 : w.grownBy W0 none := by rw [← hW0]; exact gb_alloc (gb_refl _ _) _
  have HG := Lib.hid G0
  have HR0 : Hid (Row W0 h0 28 #[.slice none 0 0, .slice none 0 0]) := by rw [← hW0, ← hh0]; exact Row.new _ _ _
  obtain ⟨g, o, rfl, _, _⟩ := ha.2 (by decide)
  obtain ⟨A1, n1, c1, B1, m1, d1, hc1, hd1, hn1, hm1, hget⟩ := (ha.keep G0).get (i := 0) rfl
  rw [Nat.zero_mul, Nat.add_zero] at hget
  obtain ⟨z0, z1, z2⟩ := hget W0 (gb_refl _ _)
  have HJ : Hid (Calls Tryd.prog 30 #[.agg #[.slice none 0 0, .slice none 0 0], .agg #[.slice A1 n1 c1, .slice B1 m1 d1]] W0 (States s W0)) := by
    have h := pJoin_any none none A1 B1 0 0 0 0 n1 c1 m1 d1 none_ s W0 ⟨RL.none _ _, FL.none _ _⟩ z2 none_ss hs (by omega) (by omega) (by have := hl.1; omega) (by have := hl.2; omega) (by omega) hd1 hc1
    rw [(join_none hs).2] at h
    exact h
  have b0 : (0 : Int) < 1 := by decide
  clear G0 ha hs hl hc1 hd1 hn1 hm1 hget z2
  go_enter Tryd.func18, Tryd.ntmps18
  go_upto_region 1 with fail
  clear hW0 hh0
  go_wp2_with (go_at_call 30; refine HJ.out.mono ?_; rintro e W ⟨A4, n4, c4, B4, m4, d4, rfl, hs4, hc4, hd4, g4⟩; have hr := HR0.out.kept g4 (by simp); have q0 := hr.free 0; have q1 := hr.free 1; have u0 := hr.at_ (i := 0) rfl; have u1 := hr.at_ (i := 1) rfl; have Hr := Lib.hid hr; have Hs4 := Lib.hid hs4; have Hcd : Hid (n4 ≤ c4 ∧ m4 ≤ d4) := ⟨hc4, hd4⟩; have Hg4 := Lib.hid g4; clear hr hs4 hc4 hd4 g4)
  have g1 := gb_set1 W h0 0 (.slice A4 n4 c4)
  have x1 := Hr.out.set_ 0 (.slice A4 n4 c4)
  have g2 := gb_set1 (W.setCell ⟨h0, 0, none⟩ (.slice A4 n4 c4)) h0 1 (.slice B4 m4 d4)
  exact bodyPost_ret (results_cell_row rfl _ _ h0 28 _ (0, 0) _ rfl (x1.set_ 1 (.slice B4 m4 d4)) Tryd.underlying28 rfl (by kernel_rfl)) rfl ⟨A4, n4, c4, B4, m4, d4, rfl, sl_beside (sl_beside Hs4.out g1 Hr.out) g2 x1, Hcd.out.1, Hcd.out.2, gb_new (gb_new (gb_none HG.out Hg4.out) g1 Hh0.out) g2 Hh0.out⟩
set_option maxHeartbeats 16000000 in
set_option maxRecDepth 100000 in
theorem pAll_any (n : Nat) : ∀ (A : Option Addr) (c : Nat) (ls : List St) (w : World), AL w A n ls → Parts ls → n ≤ c → n ≤ 100000 → Calls Tryd.prog 18 #[.slice A n c] w (States (allS ls) w) := by
  induction n using Nat.strongRecOn with
  | ind n ih =>
  intro A c ls w ha hp hnc hn
  by_cases h0n : n = 0
  · subst h0n
    obtain rfl : ls = [] := List.eq_nil_of_length_eq_zero ha.1
    exact pAll_nil A c w
  by_cases h1n : n = 1
  · subst h1n
    obtain ⟨s, rfl⟩ : ∃ s, ls = [s] := by
      match ls, ha.1 with
      | [s], _ => exact ⟨s, rfl⟩
    have hs := hp.1 s (by simp)
    have h := pAll_one A c s w ha hs.1 hs.2
    rwa [show s = allS [s] from (join_none hs.1).2.symm] at h
  obtain ⟨h0, hh0⟩ : ∃ h0, w.heap.size = h0 := ⟨_, rfl⟩
  have Hh0 : Hid (w.heap.size ≤ h0) := by show _ ≤ _; omega
  obtain ⟨W0, hW0⟩ : ∃ W0, w.alloc (.cells #[.slice none 0 0, .slice none 0 0] 28) = W0 := ⟨_, rfl⟩
  have G0 : w.grownBy W0 none := by rw [← hW0]; exact gb_alloc (gb_refl _ _) _
  have HG := Lib.hid G0
  have HR0 : Hid (Row W0 h0 28 #[.slice none 0 0, .slice none 0 0]) := by rw [← hW0, ← hh0]; exact Row.new _ _ _
  obtain ⟨g, o, rfl, _, _⟩ := ha.2 (by omega)
  obtain ⟨h, hh⟩ : ∃ h, n / 2 = h := ⟨_, rfl⟩
  have hlen := ha.1
  have Ha := Lib.hid (ha.keep G0)
  have p1 : Parts (ls.take h) := by have := hp.part (i := 0) (j := h) (by omega); rwa [List.drop_zero] at this
  have p2 : Parts (ls.drop h) := by
    have := hp.part (i := h) (j := n - h) (by omega)
    rwa [List.take_of_length_le (by rw [List.length_drop]; omega)] at this
  have HL1 : Hid (Lens (allS (ls.take h))) := by have := hp.2 0 h (by omega); rwa [List.drop_zero] at this
  have HL2 : Hid (Lens (allS (ls.drop h))) := by
    have := hp.2 h (n - h) (by omega)
    rwa [List.take_of_length_le (by rw [List.length_drop]; omega)] at this
  have HS1 : Hid (SS (allS (ls.take h))) := allS_ss none_ss p1.ss
  have HS2 : Hid (SS (allS (ls.drop h))) := allS_ss none_ss p2.ss
  have HH := Lib.hid (allS_halves hp.ss h)
  have HC1 : Hid (∀ W, W0.grownBy W none → Calls Tryd.prog 18 #[.slice (some ⟨g, o, none⟩) h c] W (States (allS (ls.take h)) W)) := fun W hW => ih h (by omega) _ _ _ W ((Ha.out.keep hW).take (by omega)) p1 (by omega) (by omega)
  have HC2 : Hid (∀ W, W0.grownBy W none → Calls Tryd.prog 18 #[.slice (some ⟨g, o + h * 2, none⟩) (n - h) (c - h)] W (States (allS (ls.drop h)) W)) := fun W hW => ih (n - h) (by omega) _ _ _ W ((Ha.out.keep hW).drop (by omega)) p2 (by omega) (by omega)
  have e1 : ((n : Int) == 0) = false := by rw [beq_eq_false_iff_ne]; omega
  have e2 : ((n : Int) == 1) = false := by rw [beq_eq_false_iff_ne]; omega
  have e1' : (n == 0) = false := by rw [beq_eq_false_iff_ne]; omega
  have e2' : (n == 1) = false := by rw [beq_eq_false_iff_ne]; omega
  have t1 : (n : Int).tdiv 2 = (h : Int) := by rw [Int.tdiv_eq_ediv_of_nonneg (by omega)]; omega
  have t2 : IntKind.i64.wrap (h : Int) = (h : Int) := by rw [IntKind.wrap_i64]; omega
  have HB : Hid (0 ≤ (h : Int) ∧ (h : Int) ≤ (n : Int) ∧ (n : Int) ≤ (c : Int) ∧ h ≤ n ∧ n ≤ c ∧ (h : Int) ≤ (c : Int) ∧ h ≤ c ∧ ¬ c - h = 0 ∧ ¬ c = h) := ⟨by omega, by omega, by omega, by omega, hnc, by omega, by omega, by omega, by omega⟩
  clear G0 ha hp hnc hn hlen p1 p2 ih hh h0n h1n
  go_enter Tryd.func18, Tryd.ntmps18
  go_upto_region 1 with fail
  clear hW0 hh0
  go_upto_region 7 with fail
  clear e1 e2 e1' e2' t1 t2
  apply wp_region_told_tail (le := fun a b => a.grownBy b none) 9 _ [isV _, isV _, isV _, stateV (allS (ls.take h)), isV _, isV _, isV _, stateV (allS (ls.drop h)), stateV (allS ls)]
  case hL => rfl
  case hz => rfl
  case hLd => rfl
  case hLg => rfl
  case hLw => kernel_rfl
  case hlen => rfl
  case hn => rfl
  case hm => kernel_rfl
  case hB => kernel_rfl
  case ht => exact fun _ _ _ h k => gb_none h k
  case hw => exact gb_drew (gb_refl _ _)
  -- 0: join.go:41 move
  apply told_is
  · intro W f hW hE h0 K hK
    have e0 := h0 0 (by kernel_rfl)
    conv at e0 => rhs; whnf
    clear hE h0
    refine yes_of (want_free rfl) ?_
    go_simp; exact hK _ _ (gb_refl _ _) rfl
  -- 1: join.go:41 move
  apply told_is
  · intro W f hW hE h0 K hK
    have e3 := h0 3 (by kernel_rfl)
    conv at e3 => rhs; whnf
    clear hE h0
    refine yes_of (want_free rfl) ?_
    go_simp; exact hK _ _ (gb_refl _ _) rfl
  -- 2: join.go:41 slice
  apply told_is
  · intro W f hW hE h0 K hK
    have e19 : f 19 = _ := hE 1 19 _ rfl (by kernel_rfl)
    have e20 : f 20 = _ := hE 0 20 _ rfl (by kernel_rfl)
    clear hE h0
    refine yes_of (want_free rfl) ?_
    obtain ⟨b1, b2, b3, b4, b5, b6, b7, b8, b9⟩ := HB.out
    go_simp; exact hK _ _ (gb_refl _ _) rfl
  -- 3: join.go:41 call
  apply told_at stateV_stays
  · intro W f hW hE h0 K hK
    have e21 : f 21 = _ := hE 0 21 _ rfl (by kernel_rfl)
    clear hE h0
    refine yes_of (want_free rfl) ?_
    go_simp
    with_reducible refine (HC1.out W hW).mono ?_
    rintro e w1' ⟨A2, n2, c2, B2, m2, d2, rfl, h1, h2, h3, g⟩
    exact ⟨_, rfl, hK _ _ g ⟨A2, n2, c2, B2, m2, d2, rfl, h1, h2, h3⟩⟩
  -- 4: join.go:41 move
  apply told_is
  · intro W f hW hE h0 K hK
    have e0 := h0 0 (by kernel_rfl)
    conv at e0 => rhs; whnf
    clear hE h0
    refine yes_of (want_free rfl) ?_
    go_simp; exact hK _ _ (gb_refl _ _) rfl
  -- 5: join.go:41 move
  apply told_is
  · intro W f hW hE h0 K hK
    have e3 := h0 3 (by kernel_rfl)
    conv at e3 => rhs; whnf
    clear hE h0
    refine yes_of (want_free rfl) ?_
    go_simp; exact hK _ _ (gb_refl _ _) rfl
  -- 6: join.go:41 slice
  apply told_is
  · intro W f hW hE h0 K hK
    have e23 : f 23 = _ := hE 1 23 _ rfl (by kernel_rfl)
    have e24 : f 24 = _ := hE 0 24 _ rfl (by kernel_rfl)
    clear hE h0
    refine yes_of (want_free rfl) ?_
    obtain ⟨b1, b2, b3, b4, b5, b6, b7, b8, b9⟩ := HB.out
    go_simp; exact hK _ _ (gb_refl _ _) rfl
  -- 7: join.go:41 call
  apply told_at stateV_stays
  · intro W f hW hE h0 K hK
    have e25 : f 25 = _ := hE 0 25 _ rfl (by kernel_rfl)
    clear hE h0
    refine yes_of (want_free rfl) ?_
    go_simp
    with_reducible refine (HC2.out W hW).mono ?_
    rintro e w1' ⟨A2, n2, c2, B2, m2, d2, rfl, h1, h2, h3, g⟩
    exact ⟨_, rfl, hK _ _ g ⟨A2, n2, c2, B2, m2, d2, rfl, h1, h2, h3⟩⟩
  -- 8: join.go:41 call
  apply told_at stateV_stays
  · intro W f hW hE h0 K hK
    have e22 := hE 4 22 _ rfl (by kernel_rfl)
    have e26 := hE 0 26 _ rfl (by kernel_rfl)
    clear hE h0
    refine yes_of (want_free rfl) ?_
    obtain ⟨A2, n2, c2, B2, m2, d2, e22, h1, h2, h3⟩ := e22
    obtain ⟨A3, n3, c3, B3, m3, d3, e26, k1, k2, k3⟩ := e26
    have p1 := HL1.out.1; have p2 := HL1.out.2; have p3 := HL2.out.1; have p4 := HL2.out.2; have q1 := h1.1.1; have q2 := h1.2.1; have q3 := k1.1.1; have q4 := k1.2.1
    go_simp
    with_reducible refine (pJoin_any A2 B2 A3 B3 n2 c2 m2 d2 n3 c3 m3 d3 (allS (ls.take h)) (allS (ls.drop h)) W h1 k1 HS1.out HS2.out (by omega) (by omega) (by omega) (by omega) h3 k3 k2).mono ?_
    rw [← HH.out]
    rintro e w1' ⟨A4, n4, c4, B4, m4, d4, rfl, l1, l2, l3, g⟩
    exact ⟨_, rfl, hK _ _ g ⟨A4, n4, c4, B4, m4, d4, rfl, l1, l2, l3⟩⟩
  intro W f hW hA
  simp only [lexIn, Act.put, List.setIfInBounds_toArray, List.set_cons_zero, List.set_cons_succ]
  have e27 := hA 0 (some 27) _ rfl
  clear hA
  obtain ⟨A4, n4, c4, B4, m4, d4, e27, hs4, hc4, hd4⟩ := e27
  rw [e27]
  have hr := HR0.out.kept hW (by simp)
  have q0 := hr.free 0
  have q1 := hr.free 1
  have u0 := hr.at_ (i := 0) rfl
  have u1 := hr.at_ (i := 1) rfl
  have g1 := gb_set1 W h0 0 (.slice A4 n4 c4)
  have x1 := hr.set_ 0 (.slice A4 n4 c4)
  have g2 := gb_set1 (W.setCell ⟨h0, 0, none⟩ (.slice A4 n4 c4)) h0 1 (.slice B4 m4 d4)
  have Hx2 := Lib.hid (x1.set_ 1 (.slice B4 m4 d4))
  have Hs4 := Lib.hid (sl_beside (sl_beside hs4 g1 hr) g2 x1)
  have Hgg := Lib.hid (gb_new (gb_new (gb_none HG.out hW) g1 Hh0.out) g2 Hh0.out)
  have Hcd4 : Hid (n4 ≤ c4 ∧ m4 ≤ d4) := ⟨hc4, hd4⟩
  clear g1 g2 x1 hs4 hc4 hd4 hW
  rw [ends_is]
  go_simp
  clear q0 q1 u0 u1 hr
  go_wp2_with fail
  exact bodyPost_ret (results_cell_row rfl _ _ h0 28 _ (0, 0) _ rfl Hx2.out Tryd.underlying28 rfl (by kernel_rfl)) rfl ⟨A4, n4, c4, B4, m4, d4, rfl, Hs4.out, Hcd4.out.1, Hcd4.out.2, Hgg.out⟩
end Go.Proofs.YtbdpckphlagijaaDoor.Dt

namespace Go.Proofs.YtbdpckphlagijaaDoor.Dt
open Go Go.RowKit Go.Proofs.YtbdpckphlagijaaDoor.Mm Go.Proofs.YtbdpckphlagijaaDoor.Td
end Go.Proofs.YtbdpckphlagijaaDoor.Dt

namespace Go.Proofs.YtbdpckphlagijaaDoor.Dt
open Go Go.RowKit Go.Proofs.YtbdpckphlagijaaDoor.Mm Go.Proofs.YtbdpckphlagijaaDoor.Td

theorem nl_two (w : World) (x y : Int) (t : TypeId) (hx : 0 ≤ x ∧ x ≤ 255) (hy : 0 ≤ y ∧ y ≤ 255) : NL (w.alloc (.cells #[.int .u8 x, .int .u8 y] t)) (some ⟨w.heap.size, 0, none⟩) 2 [x, y] := by
  have hr := Row.new w t #[.int .u8 x, .int .u8 y]
  refine ⟨rfl, fun _ => ⟨w.heap.size, 0, rfl, hr.lt, fun i r h => ?_⟩, fun q hq => ?_⟩
  · have hi : i = 0 ∨ i = 1 := by have := (List.getElem?_eq_some_iff.1 h).1; simp at this; omega
    rcases hi with rfl | rfl
    · obtain rfl : x = r := by simpa using h
      exact hr.at_ (i := 0) rfl
    · obtain rfl : y = r := by simpa using h
      exact hr.at_ (i := 1) rfl
  · simp only [List.mem_cons, List.not_mem_nil, or_false] at hq
    rcases hq with rfl | rfl <;> assumption
/-- Two of one state, in a block of their own. -/
theorem al_new2 (w : World) {A B : Option Addr} {n c m d : Nat} {s : St} (hs : SL w A n B m s) (hc : n ≤ c) (hd : m ≤ d) : AL (w.alloc (.cells #[.slice A n c, .slice B m d, .slice A n c, .slice B m d] 28)) (some ⟨w.heap.size, 0, none⟩) 2 [s, s] := by
  have hr := Row.new w 28 #[.slice A n c, .slice B m d, .slice A n c, .slice B m d]
  have hk := hs.keep (gb_alloc (gb_refl w none) (.cells #[.slice A n c, .slice B m d, .slice A n c, .slice B m d] 28))
  refine ⟨rfl, fun _ => ⟨_, 0, rfl, hr.lt, fun i t hi => ?_⟩⟩
  have h2 : i = 0 ∨ i = 1 := by have := (List.getElem?_eq_some_iff.1 hi).1; simp at this; omega
  rcases h2 with rfl | rfl
  · obtain rfl : s = t := by simpa using hi
    exact ⟨A, n, c, B, m, d, hr.at_ (i := 0) rfl, hr.at_ (i := 1) rfl, hk, hc, hd⟩
  · obtain rfl : s = t := by simpa using hi
    exact ⟨A, n, c, B, m, d, hr.at_ (i := 2) rfl, hr.at_ (i := 3) rfl, hk, hc, hd⟩
def pairV (s : St) : Td.Spec := fun W v => ∃ g, v = .slice (some ⟨g, 0, none⟩) 2 2 ∧ AL W (some ⟨g, 0, none⟩) 2 [s, s]
theorem pairV_stays {s : St} : Stays (fun a b => a.grownBy b none) (pairV s) := fun _ _ _ h ⟨g, e, ha⟩ => ⟨g, e, ha.keep h⟩
/-- The laws' example: one deed, one fact. -/
theorem wk9 : (makeK [0, 1] 1).facts.length = 1 := by decide +kernel
theorem parts_two {s : St} (hs : SS s) (hl : Lens s) : Parts [s, s] := by
  refine ⟨fun t ht => ?_, fun i j hj => ?_⟩
  · simp only [List.mem_cons, List.not_mem_nil, or_false, or_self] at ht
    subst ht; exact ⟨hs, hl⟩
  · have h0 : Lens (allS []) := ⟨Nat.zero_le _, Nat.zero_le _⟩
    have h1 : Lens (allS [s]) := by rw [show allS [s] = s from (join_none hs).2]; exact hl
    have hj2 : j = 0 ∨ j = 1 := by simp at hj; omega
    rcases hj2 with rfl | rfl
    · simpa using h0
    · match i with
      | 0 => simpa using h1
      | 1 => simpa using h1
      | i + 2 => simpa using h0
attribute [local go_sem] Td.upon_value Td.upon_skip Td.upon_enter Td.upon_row Td.look_tmp Td.look_const Td.look_func Td.look_global
end Go.Proofs.YtbdpckphlagijaaDoor.Dt

namespace Go.Proofs.YtbdpckphlagijaaDoor.Dt
open Go Go.RowKit Go.Proofs.YtbdpckphlagijaaDoor.Mm Go.Proofs.YtbdpckphlagijaaDoor.Td

theorem mk4 (W : World) : (Instr.makeSlice 24 (.int .i64 4) (.int .i64 4)).run Tryd.prog W = .ok (.slice (some ⟨W.heap.size, 0, none⟩) 4 4) (W.alloc (.cells #[.slice none 0 0, .slice none 0 0, .slice none 0 0, .slice none 0 0, .slice none 0 0, .slice none 0 0, .slice none 0 0, .slice none 0 0] 28)) := by
  kernel_rfl
attribute [local go_sem] Td.upon_value Td.upon_skip Td.upon_enter Td.upon_row Td.look_tmp Td.look_const Td.look_func Td.look_global
/-- What Apart leaves. -/
def Grps (g : Grp) (w : World) (e : Ending) (w' : World) : Prop := ∃ gl, e = .returned (.slice (some ⟨gl, 0, none⟩) 4 4) ∧ GR w' gl g ∧ w.heap.size ≤ gl ∧ w.grownBy w' none
end Go.Proofs.YtbdpckphlagijaaDoor.Dt
