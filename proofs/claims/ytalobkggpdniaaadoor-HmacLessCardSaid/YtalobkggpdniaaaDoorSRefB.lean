/- The document's Sum: its opening (plain lemmas). -/
import Derived.Test.YtalobkggpdniaaaDoorSRefA
namespace Go.Proofs.YtalobkggpdniaaaDoor
open Go.RowKit Wd Mm

def lenV : Value → Nat
  | .slice _ l _ => l
  | _ => 0
theorem owns_len {w : World} {base n : Nat} {e : TypeId} {v : Value} {xs : List Value} (h : OwnsM w base e v n xs) : lenV v = n := by
  rcases h.2 with ⟨rfl, rfl⟩ | ⟨g, cap, cur, fz, rfl, _⟩ <;> rfl
theorem owns_slice {w : World} {base n : Nat} {e : TypeId} {v : Value} {xs : List Value} (h : OwnsM w base e v n xs) (h0 : 0 < n) : ∃ g cap, v = .slice (some ⟨g, 0, none⟩) n cap := by
  rcases h.2 with ⟨_, hz⟩ | ⟨g, cap, cur, fz, rfl, _⟩
  · omega
  · exact ⟨g, cap, rfl⟩
/-- The bytes with 128 and so many noughts behind. -/
def withN (b : List UInt8) (k : Nat) : List UInt8 := b ++ 128 :: List.replicate k 0
theorem withN_zero (b : List UInt8) : (withN b 0).map w8 = b.map w8 ++ [.int .u8 128] := by simp [withN, w8]
theorem withN_succ (b : List UInt8) (k : Nat) : (withN b (k + 1)).map w8 = (withN b k).map w8 ++ [.int .u8 0] := by
  simp [withN, List.replicate_succ', w8]
theorem withN_pad (b : List UInt8) (k : Nat) (hk : k = (119 - b.length % 64) % 64) (hb : 8 * b.length < 18446744073709551616) : (withN b k).map w8 ++ (beBytes (8 * b.length) 8).map w8 = (padB b).map w8 := by
  rw [← List.map_append, hk]
  congr 1
  simp only [withN, padB, tailB, Nat.mod_eq_of_lt hb, List.append_assoc, List.cons_append]
theorem nought_more (n k : Nat) (hk : k ≤ (119 - n % 64) % 64) (h : (n + 1 + k) % 64 ≠ 56) : k + 1 ≤ (119 - n % 64) % 64 := by omega
theorem nought_end (n k : Nat) (hk : k ≤ (119 - n % 64) % 64) (h : (n + 1 + k) % 64 = 56) : k = (119 - n % 64) % 64 := by omega
theorem padB_size (b : List UInt8) : (padB b).length = b.length + 9 + (119 - b.length % 64) % 64 := by
  simp only [padB, tailB, List.length_append, List.length_cons, List.length_replicate, beBytes_len]; omega
theorem str_cells (l : List UInt8) : Lib.strCells ⟨l.toArray⟩ = l.map w8 := by
  simp [Lib.strCells, w8]
/-- A string turned into bytes, whole. -/
theorem convert_any (w : World) (s : ByteArray) (hs : s.size ≤ maxLen) :
    ∃ v0 w0, (convert 9 26 (.string s)).run Tryd.prog w = .ok v0 w0 ∧ OwnsM w0 w.heap.size 5 v0 s.size (s.data.toList.map w8) ∧ w.grownBy w0 none :=
  ⟨_, _, run_bytes_of_string (P := Tryd.prog) w 9 26 5 s Tryd.underlying9 Tryd.underlying26 Tryd.underlying5, convert_ownsM w _ s (Nat.le_refl _) hs, gb_alloc (gb_drew (gb_refl _ _)) _⟩
/-- Room for 64 words. -/
def z64 : Array Value := madeCells (Value.int .u32 0).cells 64
theorem z64_size : z64.size = 64 := size_madeCells _ _
theorem make_any (w : World) : (Instr.makeSlice 51 (.int .i64 64) (.int .i64 64)).run Tryd.prog w = .ok (.slice (some ⟨w.heap.size, 0, none⟩) 64 64) (w.alloc (.cells z64 42)) := by
  obtain ⟨i, hi, hz, hs, hb⟩ := info_parts word_inf
  have h := run_makeSlice (P := Tryd.prog) w 51 42 i (.int .u32 0) Tryd.underlying51 hi hz .i64 .i64 64 64 (by omega) (by omega) (by rw [hs]; decide) (by rw [hb]; decide) (by omega)
  rw [hs] at h
  exact h
theorem own_empty (w : World) (base : Nat) (t : TypeId) (h : base ≤ w.heap.size) : (w.alloc (.cells #[] t)).ownsRow base t 1 (.slice (some ⟨w.heap.size, 0, none⟩) 0 0) 0 [] :=
  ⟨rfl, .inr ⟨w.heap.size, 0, #[], rfl, h, heap_alloc_new w _, Nat.le_refl _, by decide, rfl, rfl⟩⟩
theorem row_news {w : World} {g : Nat} {t : TypeId} {l : List Value} (r : Row w g t l.toArray) : ∀ j u, l[j]? = some u → w.cell? ((⟨g, 0, none⟩ : Addr).add j) = some u := fun j u hu => by
  have hadd : (⟨g, 0, none⟩ : Addr).add j = ⟨g, j, none⟩ := by unfold Addr.add; split <;> simp_all
  rw [hadd]
  exact r.at_ (by simpa using hu)
theorem words_cells (l : List UInt32) : ∀ u ∈ l.map w32, u.oneCell' = true := by
  intro u hu
  simp only [List.mem_map] at hu
  obtain ⟨x, _, rfl⟩ := hu
  rfl
theorem top_0 (x : UInt32) : (x.toNat : Int) / 16777216 % 256 = ((highB x.toNat 4 0).toNat : Int) := highB_walk x.toNat 4 0 (x.toNat / 16777216) rfl
theorem top_1 (x : UInt32) : (x.toNat : Int) / 65536 % 256 = ((highB x.toNat 4 1).toNat : Int) := highB_walk x.toNat 4 1 (x.toNat / 65536) rfl
theorem top_2 (x : UInt32) : (x.toNat : Int) / 256 % 256 = ((highB x.toNat 4 2).toNat : Int) := highB_walk x.toNat 4 2 (x.toNat / 256) rfl
theorem top_3 (x : UInt32) : (x.toNat : Int) % 256 = ((highB x.toNat 4 3).toNat : Int) := highB_walk x.toNat 4 3 x.toNat (by simp)
/-- The first words' bytes. -/
def tellN (l : List UInt32) (q : Nat) : List UInt8 := (List.range (4 * q)).map (tellF l)
theorem tellF_at (l : List UInt32) (q j : Nat) (hj : j < 4) : tellF l (4 * q + j) = highB (l.getD q 0).toNat 4 j := by
  unfold tellF
  rw [show (4 * q + j) / 4 = q by omega, show (4 * q + j) % 4 = j by omega]
theorem tellN_succ (l : List UInt32) (q : Nat) : tellN l (q + 1) = tellN l q ++ [highB (l.getD q 0).toNat 4 0, highB (l.getD q 0).toNat 4 1, highB (l.getD q 0).toNat 4 2, highB (l.getD q 0).toNat 4 3] := by
  unfold tellN
  rw [show 4 * (q + 1) = 4 * q + 4 by omega, List.range_add, List.map_append]
  congr 1
  have h0 := tellF_at l q 0 (by decide)
  have h1 := tellF_at l q 1 (by decide)
  have h2 := tellF_at l q 2 (by decide)
  have h3 := tellF_at l q 3 (by decide)
  show [tellF l (4 * q + 0), tellF l (4 * q + 1), tellF l (4 * q + 2), tellF l (4 * q + 3)] = _
  rw [h0, h1, h2, h3]
theorem tellN_8 (l : List UInt32) : tellN l 8 = tellB l := rfl
theorem words_at (l : List UInt32) (i : Nat) (h : i < l.length) : (l.map w32).toArray[i]? = some (.int .u32 ((l.getD i 0).toNat : Int)) := by
  simp [h, w32]
theorem own_far {w : World} {base : Nat} {e t : TypeId} {size n g : Nat} {v : Value} {xs : List Value} {cs : Array Value} (h : w.ownsRow base e size v n xs) (hr : Row w g t cs) (hn : e ≠ t) : some g ≠ v.ownBlock := by
  rcases h.2 with ⟨rfl, _⟩ | ⟨g', cap, cur, rfl, _, hh, _⟩
  · simp [Value.ownBlock]
  · intro he
    have e2 : g = g' := Option.some.inj he
    subst e2
    have := (show Row w g e cur from hh).symm.trans hr
    injection this with this
    injection this with _ h2
    exact hn h2
end Go.Proofs.YtalobkggpdniaaaDoor
