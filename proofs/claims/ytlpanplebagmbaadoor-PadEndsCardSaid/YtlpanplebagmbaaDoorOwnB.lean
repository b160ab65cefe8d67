/- A string turned into bytes: a slice of the call's own, whose block may bear a mark; what becomes of it. No numbers of the program but types by name. -/
import Derived.Test.YtlpanplebagmbaaDoorProg
import Derived.Test.YtlpanplebagmbaaDoorOwnM
import Derived.Test.YtlpanplebagmbaaDoorWord
import Derived.KernelRfl
namespace Go.Proofs.YtlpanplebagmbaaDoor
open Go.RowKit Wd Mm

/-- A string turned into bytes: a slice of the call's own. -/
theorem bytesRow_size (s : ByteArray) (c : Nat) (h : s.size ≤ c) : (bytesRow s c).size = c := by
  simp [bytesRow]; omega
theorem convert_ownsM (w : World) (base : Nat) (s : ByteArray) (hb : base ≤ w.heap.size) (hs : s.size ≤ maxLen) :
    OwnsM (w.drew.alloc (.cells (bytesRow s (grownCap w s.size 0 5)) 5 ((bytesRow s (grownCap w s.size 0 5)).size, (bytesRow s (grownCap w s.size 0 5)).size + 1))) base 5
      (.slice (some ⟨w.heap.size, 0, none⟩) s.size (grownCap w s.size 0 5)) s.size (s.data.toList.map w8) := by
  have hge := grownCap_ge w s.size 0 5
  have hsz := bytesRow_size s _ hge
  refine ⟨by simp, .inr ⟨w.heap.size, _, _, _, rfl, hb, heap_alloc_new w.drew _, .inr (Nat.le_refl _), hge, grownCap_le_maxLen w _ _ _ hs, hsz, ?_⟩⟩
  apply List.ext_getElem?
  intro i
  rw [List.getElem?_take]
  by_cases hi : i < s.size
  · rw [if_pos hi, Array.getElem?_toList, bytesRow_at s _ i hi]
    simp [hi, w8]
  · rw [if_neg hi, List.getElem?_eq_none (by simp; omega)]

def lenV : Value → Nat
  | .slice _ l _ => l
  | _ => 0
theorem owns_len {w : World} {base n : Nat} {e : TypeId} {v : Value} {xs : List Value} (h : OwnsM w base e v n xs) : lenV v = n := by
  rcases h.2 with ⟨rfl, rfl⟩ | ⟨g, cap, cur, fz, rfl, _⟩ <;> rfl
theorem owns_slice {w : World} {base n : Nat} {e : TypeId} {v : Value} {xs : List Value} (h : OwnsM w base e v n xs) (h0 : 0 < n) : ∃ g cap, v = .slice (some ⟨g, 0, none⟩) n cap := by
  rcases h.2 with ⟨_, hz⟩ | ⟨g, cap, cur, fz, rfl, _⟩
  · omega
  · exact ⟨g, cap, rfl⟩
/-- A string turned into bytes, whole. -/
theorem convert_any (w : World) (s : ByteArray) (hs : s.size ≤ maxLen) :
    ∃ v0 w0, (convert 9 32 (.string s)).run Tryd.prog w = .ok v0 w0 ∧ OwnsM w0 w.heap.size 5 v0 s.size (s.data.toList.map w8) ∧ w.grownBy w0 none :=
  ⟨_, _, run_bytes_of_string (P := Tryd.prog) w 9 32 5 s Tryd.underlying9 Tryd.underlying32 Tryd.underlying5, convert_ownsM w _ s (Nat.le_refl _) hs, gb_alloc (gb_drew (gb_refl _ _)) _⟩
theorem owns_cap {w : World} {base n g cap : Nat} {e : TypeId} {xs : List Value} (h : OwnsM w base e (.slice (some ⟨g, 0, none⟩) n cap) n xs) : n ≤ cap ∧ cap ≤ maxLen := by
  rcases h.2 with ⟨h', _⟩ | ⟨g', cap', cur, fz, h', _, _, _, h1, h2, _⟩
  · cases h'
  · injection h' with _ _ h3
    subst h3
    exact ⟨h1, h2⟩
/-- The bytes of a slice of the call's own, as a text. -/
theorem ownsM_text {w : World} {base n : Nat} {v : Value} {l : List UInt8} (h : OwnsM w base 5 v n (l.map w8)) (h0 : 0 < n) : (convert 32 9 v).run Tryd.prog w = .ok (.string ⟨l.toArray⟩) w := by
  have hn : l.length = n := by simpa using h.1
  rcases h.2 with ⟨_, hz⟩ | ⟨g, cap, cur, fz, rfl, _⟩
  · omega
  · subst hn
    refine run_convert_bytes_back (P := Tryd.prog) w 32 9 5 ⟨g, 0, none⟩ cap l Tryd.underlying32 Tryd.underlying5 Tryd.underlying9 (fun j hj => ?_)
    have hadd : (⟨g, 0, none⟩ : Addr).add j = ⟨g, j, none⟩ := by unfold Addr.add; split <;> simp_all
    rw [hadd]
    exact h.cell rfl j _ (by simp [hj, w8])
/-- Fewer of them. -/
theorem ownsM_less {w : World} {base n g cap : Nat} {e : TypeId} {xs : List Value} (h : OwnsM w base e (.slice (some ⟨g, 0, none⟩) n cap) n xs) (k : Nat) (hk : k ≤ n) : OwnsM w base e (.slice (some ⟨g, 0, none⟩) k cap) k (xs.take k) := by
  refine ⟨by rw [List.length_take, h.1]; omega, ?_⟩
  rcases h.2 with ⟨h', _⟩ | ⟨g', cap', cur, fz, h', hb, hh, hf, h1, h2, h3, h4⟩
  · cases h'
  · cases h'
    refine .inr ⟨g, cap, cur, fz, rfl, hb, hh, hf, by omega, h2, h3, ?_⟩
    rw [← h4, List.take_take]
    congr 1
    omega
/-- One of them written. -/
theorem ownsM_set {w : World} {base n g cap : Nat} {e : TypeId} {xs : List Value} (h : OwnsM w base e (.slice (some ⟨g, 0, none⟩) n cap) n xs) (k : Nat) (v : Value) : OwnsM (w.setCell ⟨g, k, none⟩ v) base e (.slice (some ⟨g, 0, none⟩) n cap) n (xs.set k v) := by
  refine ⟨by rw [List.length_set, h.1], ?_⟩
  rcases h.2 with ⟨h', _⟩ | ⟨g', cap', cur, fz, h', hb, hh, hf, h1, h2, h3, h4⟩
  · cases h'
  · cases h'
    refine .inr ⟨g, cap, cur.setIfInBounds k v, fz, rfl, hb, ?_, ?_, h1, h2, by simpa using h3, ?_⟩
    · simp [World.setCell, Array.getElem?_modify, hh]
    · rcases hf with hf | hf
      · exact .inl hf
      · exact .inr (by simpa using hf)
    · rw [Array.toList_setIfInBounds, List.take_set, h4]
theorem ownsM_cell {w : World} {base n g cap : Nat} {e : TypeId} {xs : List Value} (h : OwnsM w base e (.slice (some ⟨g, 0, none⟩) n cap) n xs) (j : Nat) (u : Value) (hu : xs[j]? = some u) : w.cell? ⟨g, j, none⟩ = some u := h.cell rfl j u hu
theorem ownsM_free {w : World} {base n g cap : Nat} {e : TypeId} {xs : List Value} (h : OwnsM w base e (.slice (some ⟨g, 0, none⟩) n cap) n xs) (j : Nat) (hj : j < n) : w.frozen? ⟨g, j, none⟩ = false := by
  rcases h.2 with ⟨h', _⟩ | ⟨g', cap', cur, fz, h', hb, hh, hf, h1, h2, h3, h4⟩
  · cases h'
  · cases h'
    obtain ⟨lo, hi⟩ := fz
    simp only [World.frozen?, hh, Bool.and_eq_false_iff, decide_eq_false_iff_not]
    rcases hf with hf | hf
    · cases hf; right; omega
    · left; simp only at hf; omega
end Go.Proofs.YtlpanplebagmbaaDoor
