/- Facts found by key and kind; states that may not be: two facts the wrong way round, one twice, one not seen. -/
import Derived.Test.YtblndpfgfakdeaaFtDeed
set_option linter.unusedVariables false
namespace Go.Proofs.Ytblndpfgfakdeaa.Dt

def Fits (f : Fc) (key : ByteArray) (kind : Int) : Prop := f.key = key ∧ (kind = 0 ∨ f.kind = kind)
instance (f : Fc) (key : ByteArray) (kind : Int) : Decidable (Fits f key kind) := inferInstanceAs (Decidable (f.key = key ∧ (kind = 0 ∨ f.kind = kind)))
def findL (l : List Fc) (key : ByteArray) (kind : Int) : List Fc := l.filter fun f => decide (Fits f key kind)
theorem find_mem {l : List Fc} {key : ByteArray} {kind : Int} {f : Fc} : f ∈ findL l key kind ↔ f ∈ l ∧ Fits f key kind := by
  unfold findL; rw [List.mem_filter, decide_eq_true_eq]
theorem find_more {l : List Fc} {k : Nat} {x : Fc} (h : l[k]? = some x) (key : ByteArray) (kind : Int) : findL (l.take (k + 1)) key kind = if Fits x key kind then findL (l.take k) key kind ++ [x] else findL (l.take k) key kind := by
  unfold findL
  rw [List.take_add_one, h, List.filter_append]
  by_cases hf : Fits x key kind
  · rw [if_pos hf]; simp [hf]
  · rw [if_neg hf]; simp [hf]
theorem find_len (l : List Fc) (key : ByteArray) (kind : Int) : (findL l key kind).length ≤ l.length := List.length_filter_le _ _
/-- All of a key are those of its three kinds. -/
theorem find_sum {l : List Fc} (h : ∀ f ∈ l, RightF f) (key : ByteArray) : (findL l key 0).length = (findL l key 1).length + (findL l key 2).length + (findL l key 3).length := by
  induction l with
  | nil => rfl
  | cons f l ih =>
    have ih := ih fun x hx => h x (by simp [hx])
    have hf := h f (by simp)
    have hk : f.kind = 1 ∨ f.kind = 2 ∨ f.kind = 3 := by unfold RightF at hf; omega
    unfold findL at *
    rw [List.filter_cons, List.filter_cons, List.filter_cons, List.filter_cons]
    by_cases e : f.key = key
    · have h0 : Fits f key 0 := ⟨e, .inl rfl⟩
      rcases hk with k | k | k
      · have p1 : Fits f key 1 := ⟨e, .inr k⟩
        have p2 : ¬ Fits f key 2 := fun ⟨_, q⟩ => by omega
        have p3 : ¬ Fits f key 3 := fun ⟨_, q⟩ => by omega
        simp only [h0, p1, p2, p3, decide_true, decide_false, if_true, Bool.false_eq_true, if_false, List.length_cons]; omega
      · have p1 : ¬ Fits f key 1 := fun ⟨_, q⟩ => by omega
        have p2 : Fits f key 2 := ⟨e, .inr k⟩
        have p3 : ¬ Fits f key 3 := fun ⟨_, q⟩ => by omega
        simp only [h0, p1, p2, p3, decide_true, decide_false, if_true, Bool.false_eq_true, if_false, List.length_cons]; omega
      · have p1 : ¬ Fits f key 1 := fun ⟨_, q⟩ => by omega
        have p2 : ¬ Fits f key 2 := fun ⟨_, q⟩ => by omega
        have p3 : Fits f key 3 := ⟨e, .inr k⟩
        simp only [h0, p1, p2, p3, decide_true, decide_false, if_true, Bool.false_eq_true, if_false, List.length_cons]; omega
    · have p : ∀ k, ¬ Fits f key k := fun k q => e q.1
      simp only [p, decide_false, Bool.false_eq_true, if_false]; exact ih
theorem find_four {l : List Fc} (h : ∀ f ∈ l, RightF f) (key : ByteArray) : findL l key 4 = [] := by
  rw [List.eq_nil_iff_forall_not_mem]
  intro f hf
  obtain ⟨h1, _, h2⟩ := find_mem.1 hf
  have := h f h1
  unfold RightF at this
  omega
theorem find_other {s : St} (h : Keyed s) {key : ByteArray} (hk : key.size ≠ 1) (kind : Int) : findL s.facts key kind = [] := by
  rw [List.eq_nil_iff_forall_not_mem]
  intro f hf
  obtain ⟨h1, h2, _⟩ := find_mem.1 hf
  rcases h f h1 with e | e | e <;> rw [e] at h2 <;> rw [← h2] at hk <;> exact hk rfl
theorem find_sor {l : List Fc} (h : Sor l) (key : ByteArray) (kind : Int) : Sor (findL l key kind) := h.filter _
theorem Sor.next {l : List Fc} (h : Sor l) {i j : Nat} {x y : Fc} (hx : l[i]? = some x) (hy : l[j]? = some y) (hij : i < j) : FLt x y := by
  obtain ⟨hi, rfl⟩ := List.getElem?_eq_some_iff.1 hx
  obtain ⟨hj, rfl⟩ := List.getElem?_eq_some_iff.1 hy
  exact List.pairwise_iff_getElem.1 h i j hi hj hij
theorem flt_cmp {x y : Fc} (h : FLt x y) : cmpD x.d x.n y.d y.n = -1 := if_pos h
/-- Not in order where one that stands behind another one is not behind it. -/
theorem not_sor {l : List Fc} {i j : Nat} {x y : Fc} (hx : l[i]? = some x) (hy : l[j]? = some y) (hij : i < j) (h : ¬ FLt x y) : ¬ Sor l := fun hs => h (hs.next hx hy hij)
theorem not_may_sor {s : St} (h : ¬ Sor s.facts) : ¬ MayS s := fun hm => h hm.2.2.2
theorem not_may_seen {s : St} {f : Fc} (hf : f ∈ s.facts) (h : ¬ Has s.seen f.d f.n) : ¬ MayS s := fun hm => h (hm.2.2.1 f hf).2
/-- Without facts it still may be. -/
theorem may_bare {s : St} (h : MayS s) : MayS ⟨s.seen, []⟩ := ⟨h.1, Nat.zero_le _, fun _ hf => (by cases hf), List.Pairwise.nil⟩
end Go.Proofs.Ytblndpfgfakdeaa.Dt
