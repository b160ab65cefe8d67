/- What the laws lean on: lengths, and the laws of sets as lists. No program but for Runs. -/
import Derived.Test.YtkibojoochlggaaDtLaw
import Derived.Test.YtkibojoochlggaaTold
namespace Go.Proofs.Ytkibojoochlggaa.Dt
open Go Go.RowKit Go.Proofs.Ytkibojoochlggaa.Mm

/-- Runs, their number by a name. -/
def RunsN (L : Nat) (l : List Rn) (w : World) (e : Ending) (w' : World) : Prop := ∃ A c, e = .returned (.slice A L c) ∧ RL w' A L l ∧ L ≤ c ∧ w.grownBy w' none
theorem Runs.n {l : List Rn} {w w' : World} {e : Ending} {L : Nat} (h : Runs l w e w') (hl : l.length = L) : RunsN L l w e w' := by
  obtain ⟨A, c, rfl, hr, ⟨_, hc⟩, g⟩ := h
  subst hl
  exact ⟨A, c, rfl, hr, hc, g⟩
def runsS (L : Nat) (l : List Rn) : Td.Spec := fun W v => ∃ A c, v = .slice A L c ∧ RL W A L l ∧ L ≤ c
theorem runsS_stays {L : Nat} {l : List Rn} : Td.Stays (fun a b => a.grownBy b none) (runsS L l) := fun _ _ _ h ⟨A, c, e, hr, hc⟩ => ⟨A, c, e, hr.keep h, hc⟩
def dlS (n : Nat) (l : List (Int × Int)) : Td.Spec := fun W v => ∃ A c, v = .slice A n c ∧ DL W A n l
theorem dlS_stays {n : Nat} {l : List (Int × Int)} : Td.Stays (fun a b => a.grownBy b none) (dlS n l) := fun _ _ _ h ⟨A, c, e, hr⟩ => ⟨A, c, e, hr.keep h⟩
theorem up_len (a b : List Rn) (al : Bool) : ∀ k, (upR a b al k).length ≤ k * (2 * (a.length + b.length))
  | 0 => by simp [upR]
  | k + 1 => by
    have h := up_len a b al k
    have h2 := mix_len_le (k : Int) a b al
    rw [upR, List.length_append, Nat.succ_mul]; omega
theorem union_len (a b : List Rn) : (unionR a b).length ≤ 16 * (a.length + b.length) := by have := up_len a b false 8; unfold unionR; omega
theorem minus_len (a b : List Rn) : (minusR a b).length ≤ 16 * (a.length + b.length) := by have := up_len a b true 8; unfold minusR; omega
theorem set_len (bs : List Int) : (ofR [] (dotsN bs)).length ≤ bs.length := by
  have := of_len (dotsN bs)
  unfold dotsN at this ⊢
  rwa [List.length_map] at this

variable {a b c : List Rn}
theorem law_comm (ha : May a) (hb : May b) : unionR a b = unionR b a :=
  canon _ _ (union_may ha hb) (union_may hb ha) fun d n => by rw [union_has ha hb, union_has hb ha]; exact Or.comm
theorem law_assoc (ha : May a) (hb : May b) (hc : May c) : unionR (unionR a b) c = unionR a (unionR b c) :=
  canon _ _ (union_may (union_may ha hb) hc) (union_may ha (union_may hb hc)) fun d n => by
    rw [union_has (union_may ha hb) hc, union_has ha hb, union_has ha (union_may hb hc), union_has hb hc]; exact or_assoc
theorem law_self (ha : May a) : unionR a a = a := canon _ _ (union_may ha ha) ha fun d n => by rw [union_has ha ha]; exact or_self_iff
theorem law_whole (ha : May a) (hb : May b) : unionR (minusR a b) (minusR a (minusR a b)) = a :=
  canon _ _ (union_may (minus_may ha hb) (minus_may ha (minus_may ha hb))) ha fun d n => by
    rw [union_has (minus_may ha hb) (minus_may ha (minus_may ha hb)), minus_has ha (minus_may ha hb), minus_has ha hb]
    by_cases h1 : Has a d n <;> by_cases h2 : Has b d n <;> simp [h1, h2]
theorem law_both (ha : May a) (hb : May b) : leB (minusR a (minusR a b)) b = true :=
  (leB_iff (minus_may ha (minus_may ha hb)) hb).2 fun d n h => by
    rw [minus_has ha (minus_may ha hb), minus_has ha hb] at h
    by_cases h2 : Has b d n
    · exact h2
    · exact absurd ⟨h.1, h2⟩ h.2
theorem law_less (ha : May a) (hb : May b) : leB (minusR a b) a = true := (leB_iff (minus_may ha hb) ha).2 fun d n h => ((minus_has ha hb d n).1 h).1
theorem law_more (ha : May a) (hb : May b) : leB a (unionR a b) = true := (leB_iff ha (union_may ha hb)).2 fun d n h => (union_has ha hb d n).2 (.inl h)
theorem law_none (ha : May a) (hb : May b) : (minusR (minusR a b) a).length = 0 := (minus_nil (minus_may ha hb) ha).2 (law_less ha hb)
theorem law_nil (ha : May a) (hb : May b) (L : Nat) (hL : (minusR a b).length = L) : ((L : Int) == 0) = leB a b := by
  have h := minus_nil ha hb
  rw [hL] at h
  cases hl : leB a b with
  | true => rw [h.2 hl]; rfl
  | false =>
    rw [beq_eq_false_iff_ne]
    intro e
    have : L = 0 := by omega
    rw [h.1 this] at hl; cases hl
theorem union_hasB (ha : May a) (hb : May b) (d n : Int) : hasB (unionR a b) d n = (hasB a d n || hasB b d n) := by
  rw [Bool.eq_iff_iff, hasB_iff, union_has ha hb, Bool.or_eq_true, hasB_iff, hasB_iff]
theorem minus_hasB (ha : May a) (hb : May b) (d n : Int) : hasB (minusR a b) d n = (hasB a d n && !hasB b d n) := by
  rw [Bool.eq_iff_iff, hasB_iff, minus_has ha hb, Bool.and_eq_true, Bool.not_eq_true', hasB_iff, Bool.eq_false_iff, ne_eq, hasB_iff]
theorem nl_one (w : World) (x : Int) (t : TypeId) (h0 : 0 ≤ x) (h1 : x ≤ 255) : NL (w.alloc (.cells #[.int .u8 x] t)) (some ⟨w.heap.size, 0, none⟩) 1 [x] := by
  have hr := Row.new w t #[.int .u8 x]
  refine ⟨rfl, fun _ => ⟨w.heap.size, 0, rfl, hr.lt, fun i r h => ?_⟩, fun y hy => by rw [List.mem_singleton.1 hy]; exact ⟨h0, h1⟩⟩
  have hi : i = 0 := by have := (List.getElem?_eq_some_iff.1 h).1; simp at this; omega
  subst hi
  obtain rfl : x = r := by simpa using h
  exact hr.at_ (i := 0) rfl
theorem dl_one (w : World) (x y : Int) (t : TypeId) : DL (w.alloc (.cells #[.int .i64 x, .int .i64 y] t)) (some ⟨w.heap.size, 0, none⟩) 1 [(x, y)] := by
  have hr := Row.new w t #[.int .i64 x, .int .i64 y]
  refine ⟨rfl, fun _ => ⟨w.heap.size, 0, rfl, hr.lt, fun i r h => ?_⟩⟩
  have hi : i = 0 := by have := (List.getElem?_eq_some_iff.1 h).1; simp at this; omega
  subst hi
  obtain rfl : (x, y) = r := by simpa using h
  exact ⟨hr.at_ (i := 0) rfl, hr.at_ (i := 1) rfl⟩
theorem dl_cells {w : World} {A : Option Addr} {d n : Int} (h : DL w A 1 [(d, n)]) : ∃ g o, A = some ⟨g, o, none⟩ ∧ w.cell? ⟨g, o, none⟩ = some (.int .i64 d) ∧ w.cell? ⟨g, o + 1, none⟩ = some (.int .i64 n) := by
  obtain ⟨g, o, e, _, hc⟩ := h.2 (by decide)
  obtain ⟨c0, c1⟩ := hc 0 (d, n) rfl
  exact ⟨g, o, e, by simpa using c0, by simpa using c1⟩
theorem one_has {d n : Int} (h : Ok ⟨d, n, n⟩) (e m : Int) : Has (ofR [] [(d, n)]) e m ↔ e = d ∧ m = n := by
  rw [of_has, List.mem_singleton, Prod.mk.injEq]
  exact ⟨fun k => k.1, fun k => ⟨k, by rw [k.1, k.2]; exact h⟩⟩
theorem one_more {l : List Rn} {d n : Int} (hl : May l) (h : Ok ⟨d, n, n⟩) : hasB (unionR l (ofR [] [(d, n)])) d n = true := by
  rw [hasB_iff, union_has hl (of_may _), one_has h]; exact .inr ⟨rfl, rfl⟩
theorem one_less {l : List Rn} {d n : Int} (hl : May l) (h : Ok ⟨d, n, n⟩) : hasB (minusR (unionR l (ofR [] [(d, n)])) (ofR [] [(d, n)])) d n = false := by
  rw [Bool.eq_false_iff, ne_eq, hasB_iff, minus_has (union_may hl (of_may _)) (of_may _), one_has h]
  exact fun k => k.2 ⟨rfl, rfl⟩
theorem one_le {l : List Rn} {d n : Int} (hl : May l) : leB (minusR (unionR l (ofR [] [(d, n)])) (ofR [] [(d, n)])) l = true :=
  (leB_iff (minus_may (union_may hl (of_may _)) (of_may _)) hl).2 fun e m k => by
    rw [minus_has (union_may hl (of_may _)) (of_may _), union_has hl (of_may _)] at k
    exact k.1.elim id fun k2 => absurd k2 k.2
theorem one_was {l : List Rn} {d n : Int} (hl : May l) (h : Ok ⟨d, n, n⟩) (hn : hasB l d n = false) : minusR (unionR l (ofR [] [(d, n)])) (ofR [] [(d, n)]) = l :=
  canon _ _ (minus_may (union_may hl (of_may _)) (of_may _)) hl fun e m => by
    rw [minus_has (union_may hl (of_may _)) (of_may _), union_has hl (of_may _)]
    constructor
    · rintro ⟨k | k, k2⟩
      · exact k
      · exact absurd k k2
    · intro k
      refine ⟨.inl k, fun k2 => ?_⟩
      rw [one_has h] at k2
      rw [k2.1, k2.2, ← hasB_iff, hn] at k
      cases k
theorem one_is {l : List Rn} {d n : Int} (hl : May l) (h : Ok ⟨d, n, n⟩) (hn : hasB l d n = true) : unionR l (ofR [] [(d, n)]) = l :=
  canon _ _ (union_may hl (of_may _)) hl fun e m => by
    rw [union_has hl (of_may _), one_has h]
    constructor
    · rintro (k | ⟨rfl, rfl⟩)
      · exact k
      · exact (hasB_iff _ _ _).1 hn
    · exact .inl
end Go.Proofs.Ytkibojoochlggaa.Dt
