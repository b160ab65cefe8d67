/- strings.Builder: WriteByte, WriteString at a builder that is used. -/
import Derived.Test.YtbammjhafgbfkaaDoorVCopy
import Derived.Test.YtbammjhafgbfkaaDoorWord
import Derived.Test.YtbammjhafgbfkaaDoorShelf
import Derived.Lib.AppendStr
import Derived.Lib.AppendZeros
import Derived.Laws.AppendOwn
import Derived.Maps.AppendAt
namespace Go.Proofs.YtbammjhafgbfkaaDoor
open Go.RowKit Wd Mm Vw

theorem byte_inf : (Tryd.prog.info? 5).map (fun i => (i.zero, i.size, i.bytes)) = some (some (.int .u8 0), 1, 1) := by kernel_rfl
theorem byte_parts : ∃ i, Tryd.prog.info? 5 = some i ∧ i.zero = some (.int .u8 0) ∧ i.size = 1 ∧ i.bytes = 1 := by
  obtain ⟨i, hi, h⟩ := Option.map_eq_some_iff.1 byte_inf
  simp only [Prod.mk.injEq] at h
  exact ⟨i, hi, h.1, h.2.1, h.2.2⟩
/-- The text's own bytes, as cells. -/
theorem text_cells (s : ByteArray) : Lib.strCells s = s.data.toList.map w8 := by simp [Lib.strCells, w8]
theorem byte_cells (l : List UInt8) : Lib.byteCells l = l.map w8 := by simp [Lib.byteCells, w8]
/-- A builder that is used: its block, where its bytes lie, what they are. -/
def Bd (B b : Nat) (g : Option Nat) (l : List UInt8) (w : World) : Prop :=
  B ≤ b ∧ ∃ v, v.ownBlock = g ∧ w.heap[b]? = some (.cells #[.pointer (some ⟨b, 0, none⟩), v] 51 (0, 0)) ∧ w.ownsRow B 5 1 v (l.map w8).length (l.map w8) ∧ g ≠ some b
/-- What writing into a builder turns: its two blocks alone, of those that were there. -/
def BT (b : Nat) (g g' : Option Nat) (w w' : World) : Prop :=
  w'.os = w.os ∧ w'.tape = w.tape ∧ w'.output = w.output ∧ w.heap.size ≤ w'.heap.size ∧ (∀ i, i < w.heap.size → i ≠ b → some i ≠ g → w'.heap[i]? = w.heap[i]?) ∧ (g' = g ∨ ∃ n, g' = some n ∧ w.heap.size ≤ n)
theorem BT.size {b : Nat} {g g' : Option Nat} {w w' : World} (h : BT b g g' w w') : w.heap.size ≤ w'.heap.size := h.2.2.2.1
theorem BT.block {b : Nat} {g g' : Option Nat} {w w' : World} (h : BT b g g' w w') {i : Nat} (hi : i < w.heap.size) (hb : i ≠ b) (hg : some i ≠ g) : w'.heap[i]? = w.heap[i]? := h.2.2.2.2.1 i hi hb hg
theorem BT.refl (b : Nat) (g : Option Nat) (w : World) : BT b g g w w := ⟨rfl, rfl, rfl, Nat.le_refl _, fun _ _ _ _ => rfl, .inl rfl⟩
theorem BT.trans {b : Nat} {g g' g2 : Option Nat} {w w' w2 : World} (h : BT b g g' w w') (k : BT b g' g2 w' w2) : BT b g g2 w w2 := by
  obtain ⟨h1, h2, h3, h4, h5, h6⟩ := h
  obtain ⟨k1, k2, k3, k4, k5, k6⟩ := k
  refine ⟨k1.trans h1, k2.trans h2, k3.trans h3, Nat.le_trans h4 k4, fun i hi hb hg => ?_, ?_⟩
  · rw [k5 i (by omega) hb ?_, h5 i hi hb hg]
    rcases h6 with rfl | ⟨n, rfl, hn⟩
    · exact hg
    · intro e; cases e; omega
  · rcases k6 with rfl | ⟨n, rfl, hn⟩
    · exact h6
    · exact .inr ⟨n, rfl, by omega⟩
theorem BT.grown {b : Nat} {g g' : Option Nat} {w w' w2 : World} (h : BT b g g' w w') (k : w'.grownBy w2 none) : BT b g g' w w2 := by
  refine h.trans ⟨k.os, k.tape, k.output, k.size, fun i hi _ _ => k.block i hi (by simp), .inl rfl⟩
theorem BT.ahead {b : Nat} {g g' : Option Nat} {w w' w2 : World} (k : w.grownBy w' none) (h : BT b g g' w' w2) : BT b g g' w w2 :=
  BT.trans ⟨k.os, k.tape, k.output, k.size, fun i hi _ _ => k.block i hi (by simp), .inl rfl⟩ h
theorem BT.below {B b : Nat} {g g' : Option Nat} {w w' : World} (h : BT b g g' w w') (hB : B ≤ b) (hg : ∀ i, g = some i → B ≤ i) (hw : B ≤ w.heap.size) : Below B w w' :=
  ⟨h.1, h.2.1, h.2.2.1, h.size, fun i hi => h.block (by omega) (by omega) (fun e => by have := hg i e.symm; omega)⟩
theorem Bd.kept {B b : Nat} {g : Option Nat} {l : List UInt8} {w w' : World} (h : Bd B b g l w) (hg : w.grownBy w' none) : Bd B b g l w' := by
  obtain ⟨hB, v, hv, hb, hown, hne⟩ := h
  refine ⟨hB, v, hv, (hg.block b (Array.getElem?_eq_some_iff.1 hb).1 (by simp)).trans hb, hown.kept hg ?_, hne⟩
  by_cases hv : v.ownBlock = none
  · exact .inl hv
  · exact .inr hv
theorem Bd.lt {B b : Nat} {g : Option Nat} {l : List UInt8} {w : World} (h : Bd B b g l w) : b < w.heap.size ∧ ∀ i, g = some i → B ≤ i ∧ i < w.heap.size := by
  obtain ⟨hB, v, rfl, hb, hown, hne⟩ := h
  exact ⟨(Array.getElem?_eq_some_iff.1 hb).1, fun i hi => hown.lt i hi⟩
theorem Bd.of {B b : Nat} {l : List UInt8} {w : World} (h : Lib.BuilderAt 51 5 B b (.pointer (some ⟨b, 0, none⟩)) (l.map w8) w) : ∃ g, Bd B b g l w := by
  obtain ⟨hB, v, hb, hown, hne⟩ := h
  exact ⟨v.ownBlock, hB, v, rfl, hb, hown, hne⟩
theorem Bd.back {B b : Nat} {g : Option Nat} {l : List UInt8} {w : World} (h : Bd B b g l w) : Lib.BuilderAt 51 5 B b (.pointer (some ⟨b, 0, none⟩)) (l.map w8) w := by
  obtain ⟨hB, v, rfl, hb, hown, hne⟩ := h
  exact ⟨hB, v, hb, hown, hne⟩
/-- The outcome of writing. -/
def Wrote (B b : Nat) (g : Option Nat) (w : World) (l : List UInt8) (r : Value) (e : Ending) (w' : World) : Prop := e = .returned r ∧ ∃ g', Bd B b g' l w' ∧ BT b g g' w w'

set_option maxHeartbeats 1000000 in
set_option maxRecDepth 100000 in
theorem check_used (b : Nat) (w : World) (h : w.cell? ⟨b, 0, none⟩ = some (.pointer (some ⟨b, 0, none⟩))) :
    Calls Tryd.prog 39 #[.pointer (some ⟨b, 0, none⟩)] w fun e w' => e = .returned (.tuple #[]) ∧ w = w' := by
  obtain ⟨j, hj, _⟩ := Option.map_eq_some_iff.1 (show (Tryd.prog.info? 51).map (·.size) = some 2 by kernel_rfl)
  go_enter Tryd.func39, Tryd.ntmps39
  go_wp2_with fail
  rw [Lib.run_neq_ptr_same w _ Tryd.underlying49 hj]
  go_wp2_with fail
  go_end0
  exact ⟨rfl, rfl⟩

theorem own_slice {w : World} {B : Nat} {e : TypeId} {v : Value} {n : Nat} {xs : List Value} (h : w.ownsRow B e 1 v n xs) : ∃ A m c, v = .slice A m c := by
  rcases h.2 with ⟨rfl, _⟩ | ⟨g, cap, cur, rfl, _⟩
  · exact ⟨_, _, _, rfl⟩
  · exact ⟨_, _, _, rfl⟩
theorem built_block {w w' : World} {b : Nat} {p v : Value} {o : Obj} (hne : v.ownBlock ≠ some b) (hb : w.heap[b]? = some (.cells #[p, v] 51 (0, 0))) (hbl : b < w.heap.size) (hg : (w.alloc o).grownBy w' v.ownBlock) : w'.heap[b]? = some (.cells #[p, v] 51 (0, 0)) :=
  (hg.block b (by simp; omega) (fun e => hne e.symm)).trans ((Below.heap_alloc w _ b hbl).trans hb)
theorem built_cell {w w' : World} {b : Nat} {p v : Value} {o : Obj} (hne : v.ownBlock ≠ some b) (hb : w.heap[b]? = some (.cells #[p, v] 51 (0, 0))) (hbl : b < w.heap.size) (hg : (w.alloc o).grownBy w' v.ownBlock) : w'.cell? ⟨b, 1, none⟩ = some v :=
  cell_of_row w' b 1 _ _ _ (built_block hne hb hbl hg)
theorem built_free {w w' : World} {b : Nat} {p v : Value} {o : Obj} (hne : v.ownBlock ≠ some b) (hb : w.heap[b]? = some (.cells #[p, v] 51 (0, 0))) (hbl : b < w.heap.size) (hg : (w.alloc o).grownBy w' v.ownBlock) : w'.frozen? ⟨b, 1, none⟩ = false :=
  frozen_of_row w' b 1 _ _ (built_block hne hb hbl hg)
theorem one_byte (w : World) (n : Int) : ∀ (j : Nat) (u : Value), [Value.int .u8 n][j]? = some u → (w.alloc (.cells #[.int .u8 n] 5)).cell? ((⟨w.heap.size, 0, none⟩ : Addr).add j) = some u := by
  intro j u hj
  cases j with
  | succ j => simp at hj
  | zero =>
    obtain rfl : Value.int .u8 n = u := by simpa using hj
    exact cell_of_row _ _ 0 #[.int .u8 n] 5 (0, 0) (heap_alloc_new _ _)
theorem one_small1 (n : Int) : ∀ u ∈ [Value.int .u8 n], u.oneCell' = true := by
  intro u hu
  rw [List.mem_singleton.1 hu]; rfl
theorem res_inj {a b : Value} {x y : World} (h : Result.ok a x = Result.ok b y) : a = b := by injection h
set_option maxRecDepth 100000 in
/-- Behind an append the row lies where it lay, or in the block that was made last. -/
theorem text_loc {w w' : World} {B : Nat} {v v' : Value} {n : Nat} {xs : List Value} {s : ByteArray} (hown : w.ownsRow B 5 1 v n xs) (hn : n + s.size ≤ 140737488355328)
    (hrun : (Builtin.append_ #[35, 9] 35 #[v, .string s]).run Tryd.prog w = .ok v' w') (hn0 : v' = .slice none 0 0 ↔ v = .slice none 0 0 ∧ s.size = 0) : v'.ownBlock = v.ownBlock ∨ v'.ownBlock = some w.heap.size := by
  obtain ⟨i, hi, hz, hs1, hs2⟩ := byte_parts
  rcases hown.2 with ⟨rfl, rfl⟩ | ⟨g, cap, cur, rfl, hbg, hg, hnc, hcm, hcs, htake⟩
  · by_cases hm : s.size = 0
    · left; rw [hn0.2 ⟨rfl, hm⟩]
    · right
      have h := run_append_nil_string (P := Tryd.prog) w 35 9 35 5 i (.int .u8 0) Tryd.underlying35 Tryd.underlying9 hi hz s (by omega) (by omega) (by rw [hs2]; omega)
      exact congrArg Value.ownBlock (res_inj (h.symm.trans hrun)).symm
  · by_cases hroom : n + s.size ≤ cap
    · left
      have h := Lib.run_append_room_string (P := Tryd.prog) w 35 9 35 5 i Tryd.underlying35 Tryd.underlying9 hi hs1 g n cap cur hg s hroom (by omega)
      rw [← res_inj (h.symm.trans hrun)]; rfl
    · right
      have h := Lib.run_append_grow_string (P := Tryd.prog) w 35 9 35 5 i (.int .u8 0) Tryd.underlying35 Tryd.underlying9 hi hz ⟨g, 0, none⟩ n cap xs (by rw [hs1]; exact hown.1) (hown.cells (g := g) rfl) s (by omega) (by omega) (by rw [hs2]; have := growslice_fits (bytes := 1) (need := n + s.size) (old := cap) (by omega) (by omega); exact this)
      exact congrArg Value.ownBlock (res_inj (h.symm.trans hrun)).symm
/-- What is left to say behind a write: the builder's block holds the new slice. -/
theorem wrote_of {B b : Nat} {w w' : World} {v v' : Value} {l : List UInt8} (hB : B ≤ b) (hb : w.heap[b]? = some (.cells #[.pointer (some ⟨b, 0, none⟩), v] 51 (0, 0))) (hne : v.ownBlock ≠ some b)
    (hown : w'.ownsRow B 5 1 v' (l.map w8).length (l.map w8)) (hg : w.grownBy w' v.ownBlock) (hloc : v'.ownBlock = v.ownBlock ∨ ∃ n, v'.ownBlock = some n ∧ w.heap.size ≤ n) :
    ∃ g', Bd B b g' l (w'.setCell ⟨b, 1, none⟩ v') ∧ BT b v.ownBlock g' w (w'.setCell ⟨b, 1, none⟩ v') := by
  have hbl := (Array.getElem?_eq_some_iff.1 hb).1
  have hb' : w'.heap[b]? = some (.cells #[.pointer (some ⟨b, 0, none⟩), v] 51 (0, 0)) := (hg.block b hbl (fun e => hne e.symm)).trans hb
  have hset := heap_setCell_same w' b 1 _ _ v' hb'
  have hgs := gb_set1 w' b 1 v'
  have hne' : v'.ownBlock ≠ some b := by
    rcases hloc with h | ⟨n, h, hn⟩
    · rw [h]; exact hne
    · rw [h]; intro e; have := Option.some.inj e; omega
  refine ⟨v'.ownBlock, ⟨hB, v', rfl, hset, hown.kept hgs (.inr hne'), hne'⟩, ?_⟩
  refine ⟨hg.os, hg.tape, hg.output, Nat.le_trans hg.size hgs.size, fun i hi hib hig => ?_, hloc⟩
  rw [hgs.block i (by have := hg.size; omega) (fun e => hib (Option.some.inj e))]
  exact hg.block i hi hig

set_option maxHeartbeats 4000000 in
set_option maxRecDepth 100000 in
theorem writeString_any (B b : Nat) (g : Option Nat) (l : List UInt8) (s : ByteArray) (w : World) (h : Bd B b g l w) (hlen : l.length + s.size ≤ 140737488355328) (hBw : B ≤ w.heap.size) :
    Calls Tryd.prog 43 #[.pointer (some ⟨b, 0, none⟩), .string s] w (Wrote B b g w (l ++ s.data.toList) (.tuple #[.int .i64 s.size, .nilIface])) := by
  obtain ⟨hB, v, rfl, hb, hown, hne⟩ := h
  obtain ⟨i, hi, hz, hs1, hs2⟩ := byte_parts
  have hc0 : w.cell? ⟨b, 0, none⟩ = some (.pointer (some ⟨b, 0, none⟩)) := cell_of_row w b 0 _ _ _ hb
  have hc1 : w.cell? ⟨b, 1, none⟩ = some v := cell_of_row w b 1 _ _ _ hb
  obtain ⟨v', w', hrun, hown', hgrow, hnn⟩ := Lib.run_append_own_string (P := Tryd.prog) w B 35 9 35 5 i Tryd.underlying35 Tryd.underlying9 hi hz hs1 hs2 v _ _ hown s (by simp only [maxLen]; simp; omega) (by simpa using hlen) hBw
  have hloc := text_loc hown (by simpa using hlen) hrun hnn
  obtain ⟨vA, vn, vc, rfl⟩ := own_slice hown'
  have hb' : w'.heap[b]? = some (.cells #[.pointer (some ⟨b, 0, none⟩), v] 51 (0, 0)) := (hgrow.block b (Array.getElem?_eq_some_iff.1 hb).1 (fun e => hne e.symm)).trans hb
  have hc1' : w'.cell? ⟨b, 1, none⟩ = some v := cell_of_row w' b 1 _ _ _ hb'
  have hf1' : w'.frozen? ⟨b, 1, none⟩ = false := frozen_of_row w' b 1 _ _ hb'
  have Hfin : Hid (∃ g', Bd B b g' (l ++ s.data.toList) (w'.setCell ⟨b, 1, none⟩ (.slice vA vn vc)) ∧ BT b v.ownBlock g' w (w'.setCell ⟨b, 1, none⟩ (.slice vA vn vc))) := by
    refine wrote_of hB hb hne ?_ hgrow (hloc.imp id fun h => ⟨_, h, Nat.le_refl _⟩)
    have e1 : (l ++ s.data.toList).map w8 = l.map w8 ++ Lib.strCells s := by rw [List.map_append, text_cells]
    rw [e1]
    have e2 : (l.map w8 ++ Lib.strCells s).length = (l.map w8).length + s.size := by simpa using hown'.1
    rw [e2]
    exact hown'
  have Hrun := Lib.hid hrun
  clear hrun hb' hown' hgrow hb hi hz hs1 hs2 hown hloc hnn
  go_enter Tryd.func43, Tryd.ntmps43
  go_wp2_with fail
  refine (check_used b _ hc0).mono ?_
  rintro e w1 ⟨rfl, rfl⟩
  go_wp2_with (at_builtin; refine Lib.wpList_append_run _ rfl (.tmp 12) (.tmp 13) 35 9 rfl _ _ rfl rfl _ _ Hrun.out ?_)
  go_ret2
  exact ⟨rfl, Hfin.out⟩

set_option maxHeartbeats 4000000 in
set_option maxRecDepth 100000 in
theorem writeByte_any (B b : Nat) (g : Option Nat) (l : List UInt8) (y : UInt8) (n : Int) (hn : n = (y.toNat : Int)) (w : World) (h : Bd B b g l w) (hlen : l.length + 1 ≤ 140737488355328) (hBw : B ≤ w.heap.size) :
    Calls Tryd.prog 41 #[.pointer (some ⟨b, 0, none⟩), .int .u8 n] w (Wrote B b g w (l ++ [y]) .nilIface) := by
  obtain ⟨hB, v, rfl, hb, hown, hne⟩ := h
  obtain ⟨i, hi, hz, hs1, hs2⟩ := byte_parts
  have hc0 : w.cell? ⟨b, 0, none⟩ = some (.pointer (some ⟨b, 0, none⟩)) := cell_of_row w b 0 _ _ _ hb
  have hc1 : w.cell? ⟨b, 1, none⟩ = some v := cell_of_row w b 1 _ _ _ hb
  have hbl : b < w.heap.size := (Array.getElem?_eq_some_iff.1 hb).1
  have hown1 := hown.alloc (.cells #[.int .u8 n] 5)
  have Hi := Lib.hid hi
  have Hz := Lib.hid hz
  have Hs1 := Lib.hid hs1
  have Hs2 := Lib.hid hs2
  have Hb := Lib.hid hb
  have Hown1 := Lib.hid hown1
  have Hn := Lib.hid hn
  clear hi hz hs1 hs2 hb hown hown1 hn
  go_enter Tryd.func41, Tryd.ntmps41
  go_wp2_with fail
  refine (check_used b _ hc0).mono ?_
  rintro e w1 ⟨rfl, rfl⟩
  go_wp2_with (at_builtin; refine wpList_append_own_at _ rfl (.tmp 11) (.tmp 13) 35 rfl B 5 i (.int .u8 0) 1 1 Tryd.underlying35 Hi.out Hz.out Hs1.out Hs2.out rfl (by decide) _ (l.map w8).length _ rfl Hown1.out ⟨w.heap.size, 0, none⟩ 1 1 [.int .u8 n] rfl rfl (one_byte w n) (one_small1 n) (by simp only [maxLen]; simp; omega) (by simp; omega) (by simp; omega) ?_; intro v' w' own' grow' _ hloc; obtain ⟨vA, vn, vc, rfl⟩ := own_slice own'; have hc1' := built_cell hne Hb.out hbl grow'; have hf1' := built_free hne Hb.out hbl grow')
  have Hown' := Lib.hid own'
  have Hgrow := Lib.hid grow'
  clear own' grow'
  go_ret
  refine ⟨rfl, ?_⟩
  have e1 : (l ++ [y]).map w8 = l.map w8 ++ [.int .u8 n] := by rw [List.map_append, Hn.out]; rfl
  obtain ⟨g', h1, h2⟩ := wrote_of (l := l ++ [y]) hB (w := w.alloc (.cells #[.int .u8 n] 5)) ((Below.heap_alloc w _ b hbl).trans Hb.out) hne (by rw [e1, List.length_append]; exact Hown'.out) Hgrow.out (hloc.imp id fun h => ⟨_, h, Nat.le_refl _⟩)
  exact ⟨g', h1, BT.ahead (gb_alloc (gb_refl _ _) _) h2⟩
end Go.Proofs.YtbammjhafgbfkaaDoor
