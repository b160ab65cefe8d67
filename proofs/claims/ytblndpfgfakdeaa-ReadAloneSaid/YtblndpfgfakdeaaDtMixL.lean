/- mix: one more run, and how long its lists are. No program. -/
import Derived.Test.YtblndpfgfakdeaaDtMix
namespace Go.Proofs.Ytblndpfgfakdeaa.Dt

theorem pts_snoc (dev : Int) (x : Rn) : ∀ (l : List Rn) (m : List Int), pts dev m (l ++ [x]) = if x.d = dev then mk (mk (pts dev m l) x.f) (x.t + 1) else pts dev m l
  | [], m => rfl
  | r :: l, m => by rw [List.cons_append, pts, pts, pts_snoc dev x l]
theorem pts_more {l : List Rn} {k : Nat} {x : Rn} (dev : Int) (m : List Int) (h : l[k]? = some x) : pts dev m (l.take (k + 1)) = if x.d = dev then mk (mk (pts dev m (l.take k)) x.f) (x.t + 1) else pts dev m (l.take k) := by
  rw [List.take_add_one, h]; exact pts_snoc dev x _ m
theorem filter_two (x : Int) : ∀ l : List Int, (l.filter (fun y => decide (y < x))).length + (l.filter (fun y => decide (x < y))).length ≤ l.length
  | [] => Nat.le_refl _
  | y :: l => by
    have h := filter_two x l
    rw [List.filter_cons, List.filter_cons]
    by_cases h1 : y < x
    · rw [if_pos (decide_eq_true h1), if_neg (by simp; omega)]
      simp only [List.length_cons]; omega
    · rw [if_neg (by simp; omega)]
      by_cases h2 : x < y
      · rw [if_pos (decide_eq_true h2)]
        simp only [List.length_cons]; omega
      · rw [if_neg (by simp; omega)]
        simp only [List.length_cons]; omega
theorem mk_len_le (l : List Int) (x : Int) : (mk l x).length ≤ l.length + 1 := by
  have h := filter_two x l
  unfold mk
  rw [List.length_append, List.length_cons]; omega
theorem mk_pos (l : List Int) (x : Int) : 0 < (mk l x).length := by
  unfold mk
  rw [List.length_append, List.length_cons]; omega
theorem pts_len_le (dev : Int) : ∀ (l : List Rn) (m : List Int), (pts dev m l).length ≤ m.length + 2 * l.length
  | [], m => by simp [pts]
  | r :: l, m => by
    rw [pts, List.length_cons]
    have h := pts_len_le dev l (if r.d = dev then mk (mk m r.f) (r.t + 1) else m)
    by_cases e : r.d = dev
    · rw [if_pos e] at h ⊢
      have h1 := mk_len_le (mk m r.f) (r.t + 1)
      have h2 := mk_len_le m r.f
      omega
    · rw [if_neg e] at h ⊢
      omega
theorem step_len_le (dev : Int) (p : Int → Bool) (rs : List Rn) (x y : Int) : (step dev p rs x y).length ≤ rs.length + 1 := by
  unfold step
  split
  · cases rs with
    | nil => simp
    | cons r rs =>
      simp only []
      split <;> simp
  · omega
theorem go_len_le (dev : Int) (p : Int → Bool) : ∀ (m : List Int) (rs : List Rn), (go dev p rs m).length ≤ rs.length + m.length
  | [], rs => by simp [go]
  | [x], rs => by simp [go]
  | x :: y :: m, rs => by
    rw [go]
    have h := go_len_le dev p (y :: m) (step dev p rs x y)
    have h2 := step_len_le dev p rs x y
    simp only [List.length_cons] at h ⊢
    omega
theorem mix_len_le (dev : Int) (a b : List Rn) (alone : Bool) : (mixR dev a b alone).length ≤ 2 * (a.length + b.length) := by
  unfold mixR
  rw [List.length_reverse]
  have h := go_len_le dev (keep a b alone dev) (pts dev (pts dev [] a) b) []
  have h1 := pts_len_le dev b (pts dev [] a)
  have h2 := pts_len_le dev a []
  simp only [List.length_nil] at h h2
  omega
/-- The places rise; the runs so far and what is left. -/
theorem places_rising (dev : Int) (a b : List Rn) : Rising (pts dev (pts dev [] a) b) := pts_rising _ _ _ (pts_rising _ _ _ List.Pairwise.nil)
theorem go_next (dev : Int) (p : Int → Bool) (rs : List Rn) {M : List Int} {k : Nat} {x y : Int} (hx : M[k]? = some x) (hy : M[k + 1]? = some y) : go dev p rs (M.drop k) = go dev p (step dev p rs x y) (M.drop (k + 1)) := by
  have h1 : k < M.length := (List.getElem?_eq_some_iff.1 hx).1
  have h2 : k + 1 < M.length := (List.getElem?_eq_some_iff.1 hy).1
  have e1 : M.drop k = x :: M.drop (k + 1) := by rw [List.drop_eq_getElem_cons h1, (List.getElem?_eq_some_iff.1 hx).2]
  have e2 : M.drop (k + 1) = y :: M.drop (k + 1 + 1) := by rw [List.drop_eq_getElem_cons h2, (List.getElem?_eq_some_iff.1 hy).2]
  rw [e1, e2, go]
theorem go_end (dev : Int) (p : Int → Bool) (rs : List Rn) {M : List Int} {k : Nat} (h : M.length ≤ k + 1) : go dev p rs (M.drop k) = rs := by
  have hl : (M.drop k).length ≤ 1 := by rw [List.length_drop]; omega
  match hm : M.drop k with
  | [] => simp [go]
  | [x] => simp [go]
  | x :: y :: r => rw [hm] at hl; simp at hl
end Go.Proofs.Ytblndpfgfakdeaa.Dt
