/- Four texts as rows of bytes, and a list of them; one byte of one turned. -/
import Derived.Test.YthdealjnhgkoiaaDoorBxAwake
namespace Go.Proofs.YthdealjnhgkoiaaDoor.Bx
open Go.RowKit Wd Mm

/-- The block g holds the text T as bytes. -/
def Fr (w : World) (g : Nat) (T : ByteArray) : Prop := ∃ C, RowF w g 5 C ∧ T.size ≤ C.size ∧ ∀ i, i < T.size → C[i]? = some (w8 (T.data.toList.getD i 0))
theorem Fr.kept {w w' : World} {g : Nat} {T : ByteArray} {r : Option Nat} (h : Fr w g T) (hg : w.grownBy w' r) (hn : some g ≠ r) : Fr w' g T := by
  obtain ⟨C, hr, hC⟩ := h
  exact ⟨C, hr.kept hg hn, hC⟩
theorem Fr.at_ {w : World} {g : Nat} {T : ByteArray} (h : Fr w g T) {j : Nat} (hj : j < T.size) : w.cell? ⟨g, j, none⟩ = some (.int .u8 ((T.data.toList.getD j 0).toNat : Int)) := by
  obtain ⟨C, hr, _, hC⟩ := h
  exact hr.at_ (hC j hj)
theorem Fr.free {w : World} {g : Nat} {T : ByteArray} (h : Fr w g T) {j : Nat} (hj : j < T.size) : w.frozen? ⟨g, j, none⟩ = false := by
  obtain ⟨C, hr, hs, _⟩ := h
  exact hr.free (by omega)
def setB (T : ByteArray) (j : Nat) (v : UInt8) : ByteArray := ⟨(T.data.toList.set j v).toArray⟩
theorem setB_size (T : ByteArray) (j : Nat) (v : UInt8) : (setB T j v).size = T.size := by
  unfold setB
  rw [← Cc.len_data, Cc.ba, List.length_set, Cc.len_data]
theorem Fr.set {w : World} {g : Nat} {T : ByteArray} (h : Fr w g T) (j : Nat) (v : UInt8) : Fr (w.setCell ⟨g, j, none⟩ (.int .u8 (v.toNat : Int))) g (setB T j v) := by
  obtain ⟨C, hr, hs, hC⟩ := h
  refine ⟨_, hr.set_ j (w8 v), by rw [setB_size]; simpa using hs, fun i hi => ?_⟩
  rw [setB_size] at hi
  unfold setB
  rw [Cc.ba, Array.getElem?_setIfInBounds]
  by_cases hji : j = i
  · subst hji
    rw [if_pos rfl, if_pos (by omega), List.getD_eq_getElem?_getD, List.getElem?_set_self (by rw [Cc.len_data]; exact hi)]
    rfl
  · rw [if_neg hji, hC i hi, List.getD_eq_getElem?_getD (l := T.data.toList.set j v), List.getElem?_set_ne hji, ← List.getD_eq_getElem?_getD]
theorem Fr.text {w : World} {g : Nat} {T : ByteArray} (h : Fr w g T) (c : Nat) : (convert 30 9 (.slice (some ⟨g, 0, none⟩) T.size c)).run Tryd.prog w = .ok (.string T) w := by
  have e := run_convert_bytes_back (P := Tryd.prog) w 30 9 5 ⟨g, 0, none⟩ c T.data.toList Tryd.underlying30 Tryd.underlying5 Tryd.underlying9 (fun j hj => by
    have hadd : (⟨g, 0, none⟩ : Addr).add j = ⟨g, j, none⟩ := by unfold Addr.add; split <;> simp_all
    rw [hadd, h.at_ (by rw [Cc.len_data] at hj; exact hj), List.getD_eq_getElem?_getD, List.getElem?_eq_getElem hj]
    rfl)
  rw [Cc.len_data] at e
  exact e
theorem Fr.new (w : World) (s : ByteArray) (cap : Nat) : Fr (w.alloc (.cells (bytesRow s cap) 5 ((bytesRow s cap).size, (bytesRow s cap).size + 1))) w.heap.size s :=
  ⟨_, ⟨_, Nat.le_refl _, heap_alloc_new _ _⟩, Cc.bytesRow_size s cap, fun i hi => Cc.bytesRow_get s cap i hi⟩

/-- Four texts, and the list of them behind. -/
structure Four (w : World) (B : Nat) (T0 T1 T2 T3 : ByteArray) (c0 c1 c2 c3 : Nat) : Prop where
  f0 : Fr w B T0
  f1 : Fr w (B + 1) T1
  f2 : Fr w (B + 1 + 1) T2
  f3 : Fr w (B + 1 + 1 + 1) T3
  l0 : w.cell? ⟨B + 1 + 1 + 1 + 1, 0, none⟩ = some (.slice (some ⟨B, 0, none⟩) T0.size c0)
  l1 : w.cell? ⟨B + 1 + 1 + 1 + 1, 1, none⟩ = some (.slice (some ⟨B + 1, 0, none⟩) T1.size c1)
  l2 : w.cell? ⟨B + 1 + 1 + 1 + 1, 2, none⟩ = some (.slice (some ⟨B + 1 + 1, 0, none⟩) T2.size c2)
  l3 : w.cell? ⟨B + 1 + 1 + 1 + 1, 3, none⟩ = some (.slice (some ⟨B + 1 + 1 + 1, 0, none⟩) T3.size c3)
theorem cell_keep {w w' : World} {r : Option Nat} {a : Addr} {v : Value} (h : w.cell? a = some v) (hg : w.grownBy w' r) (hn : some a.block ≠ r) : w'.cell? a = some v :=
  (World.cell?_of_block (hg.block _ (block_lt_of_cell h) hn)).trans h
theorem Four.keep {w w' : World} {B : Nat} {T0 T1 T2 T3 : ByteArray} {c0 c1 c2 c3 : Nat} (h : Four w B T0 T1 T2 T3 c0 c1 c2 c3) (hg : w.grownBy w' none) : Four w' B T0 T1 T2 T3 c0 c1 c2 c3 :=
  ⟨h.f0.kept hg (by simp), h.f1.kept hg (by simp), h.f2.kept hg (by simp), h.f3.kept hg (by simp), cell_keep h.l0 hg (by simp), cell_keep h.l1 hg (by simp), cell_keep h.l2 hg (by simp), cell_keep h.l3 hg (by simp)⟩
/-- Any of them; and one byte of it turned. -/
theorem Four.any {w : World} {B : Nat} {T0 T1 T2 T3 : ByteArray} {c0 c1 c2 c3 : Nat} (h : Four w B T0 T1 T2 T3 c0 c1 c2 c3) (i : Nat) (hi : i < 4) :
    ∃ (g : Nat) (T : ByteArray) (c : Nat), w.cell? ⟨B + 1 + 1 + 1 + 1, i, none⟩ = some (.slice (some ⟨g, 0, none⟩) T.size c) ∧ B ≤ g ∧ Fr w g T ∧ T.size ≤ max (max T0.size T1.size) (max T2.size T3.size) ∧
      ∀ j v, ∃ U0 U1 U2 U3, U2.size = T2.size ∧ U3.size = T3.size ∧ Four (w.setCell ⟨g, j, none⟩ (.int .u8 (UInt8.toNat v : Int))) B U0 U1 U2 U3 c0 c1 c2 c3 := by
  have k : ∀ g j v, w.grownBy (w.setCell ⟨g, j, none⟩ v) (some g) := fun g j v => gb_set1 _ _ _ _
  have e : i = 0 ∨ i = 1 ∨ i = 2 ∨ i = 3 := by omega
  rcases e with rfl | rfl | rfl | rfl
  · refine ⟨B, T0, c0, h.l0, Nat.le_refl _, h.f0, by omega, fun j v => ⟨setB T0 j v, T1, T2, T3, rfl, rfl, h.f0.set j v, h.f1.kept (k _ _ _) (by first | (simp; done) | (simp; omega)), h.f2.kept (k _ _ _) (by first | (simp; done) | (simp; omega)), h.f3.kept (k _ _ _) (by first | (simp; done) | (simp; omega)), ?_, cell_keep h.l1 (k _ _ _) (by first | (simp; done) | (simp; omega)), cell_keep h.l2 (k _ _ _) (by first | (simp; done) | (simp; omega)), cell_keep h.l3 (k _ _ _) (by first | (simp; done) | (simp; omega))⟩⟩
    rw [setB_size]; exact cell_keep h.l0 (k _ _ _) (by first | (simp; done) | (simp; omega))
  · refine ⟨B + 1, T1, c1, h.l1, by omega, h.f1, by omega, fun j v => ⟨T0, setB T1 j v, T2, T3, rfl, rfl, h.f0.kept (k _ _ _) (by first | (simp; done) | (simp; omega)), h.f1.set j v, h.f2.kept (k _ _ _) (by first | (simp; done) | (simp; omega)), h.f3.kept (k _ _ _) (by first | (simp; done) | (simp; omega)), cell_keep h.l0 (k _ _ _) (by first | (simp; done) | (simp; omega)), ?_, cell_keep h.l2 (k _ _ _) (by first | (simp; done) | (simp; omega)), cell_keep h.l3 (k _ _ _) (by first | (simp; done) | (simp; omega))⟩⟩
    rw [setB_size]; exact cell_keep h.l1 (k _ _ _) (by first | (simp; done) | (simp; omega))
  · refine ⟨B + 1 + 1, T2, c2, h.l2, by omega, h.f2, by omega, fun j v => ⟨T0, T1, setB T2 j v, T3, setB_size _ _ _, rfl, h.f0.kept (k _ _ _) (by first | (simp; done) | (simp; omega)), h.f1.kept (k _ _ _) (by first | (simp; done) | (simp; omega)), h.f2.set j v, h.f3.kept (k _ _ _) (by first | (simp; done) | (simp; omega)), cell_keep h.l0 (k _ _ _) (by first | (simp; done) | (simp; omega)), cell_keep h.l1 (k _ _ _) (by first | (simp; done) | (simp; omega)), ?_, cell_keep h.l3 (k _ _ _) (by first | (simp; done) | (simp; omega))⟩⟩
    rw [setB_size]; exact cell_keep h.l2 (k _ _ _) (by first | (simp; done) | (simp; omega))
  · refine ⟨B + 1 + 1 + 1, T3, c3, h.l3, by omega, h.f3, by omega, fun j v => ⟨T0, T1, T2, setB T3 j v, rfl, setB_size _ _ _, h.f0.kept (k _ _ _) (by first | (simp; done) | (simp; omega)), h.f1.kept (k _ _ _) (by first | (simp; done) | (simp; omega)), h.f2.kept (k _ _ _) (by first | (simp; done) | (simp; omega)), h.f3.set j v, cell_keep h.l0 (k _ _ _) (by first | (simp; done) | (simp; omega)), cell_keep h.l1 (k _ _ _) (by first | (simp; done) | (simp; omega)), cell_keep h.l2 (k _ _ _) (by first | (simp; done) | (simp; omega)), ?_⟩⟩
    rw [setB_size]; exact cell_keep h.l3 (k _ _ _) (by first | (simp; done) | (simp; omega))

def rowO (s : ByteArray) (c : Nat) : Obj := .cells (bytesRow s c) 5 ((bytesRow s c).size, (bytesRow s c).size + 1)
theorem four_new (x : World) (k o a S : ByteArray) (c0 c1 c2 c3 : Nat) (t : TypeId) (O : Obj)
    (hO : O = .cells #[.slice (some ⟨x.heap.size, 0, none⟩) k.size c0, .slice (some ⟨x.heap.size + 1, 0, none⟩) o.size c1, .slice (some ⟨x.heap.size + 1 + 1, 0, none⟩) a.size c2, .slice (some ⟨x.heap.size + 1 + 1 + 1, 0, none⟩) S.size c3] t) :
    Four (((((x.alloc (rowO k c0)).alloc (rowO o c1)).alloc (rowO a c2)).alloc (rowO S c3)).alloc O) x.heap.size k o a S c0 c1 c2 c3 := by
  subst hO
  have h1 : (x.alloc (rowO k c0)).heap.size = x.heap.size + 1 := by simp
  have h2 : ((x.alloc (rowO k c0)).alloc (rowO o c1)).heap.size = x.heap.size + 1 + 1 := by simp
  have h3 : (((x.alloc (rowO k c0)).alloc (rowO o c1)).alloc (rowO a c2)).heap.size = x.heap.size + 1 + 1 + 1 := by simp
  have h4 : ((((x.alloc (rowO k c0)).alloc (rowO o c1)).alloc (rowO a c2)).alloc (rowO S c3)).heap.size = x.heap.size + 1 + 1 + 1 + 1 := by simp
  have f0 := Fr.new x k c0
  have f1 := Fr.new (x.alloc (rowO k c0)) o c1
  have f2 := Fr.new ((x.alloc (rowO k c0)).alloc (rowO o c1)) a c2
  have f3 := Fr.new (((x.alloc (rowO k c0)).alloc (rowO o c1)).alloc (rowO a c2)) S c3
  rw [h1] at f1
  rw [h2] at f2
  rw [h3] at f3
  have a1 : ∀ (w : World) o, w.grownBy (w.alloc o) none := fun w o => gb_alloc (gb_refl _ _) _
  have hl : ∀ (w : World) (q : Nat) (cs : Array Value) (v : Value), cs[q]? = some v → (w.alloc (.cells cs t)).cell? ⟨w.heap.size, q, none⟩ = some v := fun w q cs v h => (Row.new w t cs).at_ h
  refine ⟨(((f0.kept (a1 _ _) (by simp)).kept (a1 _ _) (by simp)).kept (a1 _ _) (by simp)).kept (a1 _ _) (by simp), ((f1.kept (a1 _ _) (by simp)).kept (a1 _ _) (by simp)).kept (a1 _ _) (by simp), (f2.kept (a1 _ _) (by simp)).kept (a1 _ _) (by simp), f3.kept (a1 _ _) (by simp), ?_, ?_, ?_, ?_⟩
  all_goals rw [← h4]; exact hl _ _ _ _ rfl
end Go.Proofs.YthdealjnhgkoiaaDoor.Bx
