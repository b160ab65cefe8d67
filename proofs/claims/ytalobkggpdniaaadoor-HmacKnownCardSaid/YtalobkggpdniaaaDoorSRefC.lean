/- The document's Sum, within a block: what memory holds (plain lemmas). -/
import Derived.Test.YtalobkggpdniaaaDoorSRefB
import Derived.Test.YtalobkggpdniaaaDoorQTail
import Derived.Laws.OwnMore
import Derived.Deep.Onto
import Derived.Deep.AppendLies
namespace Go.Proofs.YtalobkggpdniaaaDoor
open Go.RowKit Wd Mm

theorem bytes_at (p : List UInt8) (i : Nat) (h : i < p.length) : (p.map w8)[i]? = some (.int .u8 ((p.getD i 0).toNat : Int)) := by
  simp [h, w8]
theorem words_at2 (l : List UInt32) (i : Nat) (h : i < l.length) : (l.map w32)[i]? = some (.int .u32 ((l.getD i 0).toNat : Int)) := by
  simp [h, w32]
theorem block_at (p : List UInt8) (a k : Nat) (hk : k < 64) : ((p.drop a).take 64).getD k 0 = p.getD (a + k) 0 := by
  simp only [List.getD_eq_getElem?_getD, List.getElem?_take, if_pos hk, List.getElem?_drop]
theorem be_block (p : List UInt8) (a q : Nat) (hq : q < 16) : be32 (p.getD (a + 4 * q) 0) (p.getD (a + 4 * q + 1) 0) (p.getD (a + 4 * q + 2) 0) (p.getD (a + 4 * q + 3) 0) = (wS ((p.drop a).take 64)).getD q 0 := by
  rw [wS_low _ q hq, beAt, block_at p a _ (by omega), block_at p a _ (by omega), block_at p a _ (by omega), block_at p a _ (by omega)]
  simp only [Nat.add_assoc]
theorem St_list_of (l : List UInt32) (h : l.length = 8) : (St.of l).list = l := by
  match l, h with
  | [_, _, _, _, _, _, _, _], _ => rfl

/-- Within a block, behind so many words w: the words are s, in the slice v. -/
structure InS (w : World) (bs gm cm M gh gk gw : Nat) (p : List UInt8) (l ws : List UInt32) (n : Nat) (s : St) (v : Value) (wr : World) : Prop where
  iw : ∃ cs : Array Value, cs.size = 64 ∧ (∀ r, r < n → cs[r]? = some (w32 (ws.getD r 0))) ∧ Row wr gw 42 cs
  iv : wr.ownsRow bs 42 1 v 8 (s.list.map w32)
  im : OwnsM wr w.heap.size 5 (.slice (some ⟨gm, 0, none⟩) M cm) M (p.map w8)
  ih : Row wr gh 42 (l.map w32).toArray
  ik : Row wr gk 42 (konst.map w32).toArray
  ig : w.grownBy wr none

section
variable {w : World} {bs gm cm M gh gk gw : Nat} {p : List UInt8} {l ws : List UInt32} {n : Nat} {s : St} {v : Value} {wr : World}
theorem InS.drew (h : InS w bs gm cm M gh gk gw p l ws n s v wr) : InS w bs gm cm M gh gk gw p l ws n s v wr.drew :=
  ⟨h.iw, h.iv, h.im, h.ih, h.ik, gb_drew h.ig⟩
theorem InS.drewN (h : InS w bs gm cm M gh gk gw p l ws n s v wr) (k : Nat) : InS w bs gm cm M gh gk gw p l ws n s v (wr.drewN k) :=
  ⟨h.iw, h.iv, h.im, h.ih, h.ik, gb_drewN h.ig k⟩
theorem InS.byte (h : InS w bs gm cm M gh gk gw p l ws n s v wr) (i : Nat) (hi : i < p.length) : wr.cell? ⟨gm, i, none⟩ = some (.int .u8 ((p.getD i 0).toNat : Int)) :=
  h.im.cell rfl i _ (bytes_at p i hi)
theorem InS.word (h : InS w bs gm cm M gh gk gw p l ws n s v wr) (i : Nat) (hi : i < n) : wr.cell? ⟨gw, i, none⟩ = some (.int .u32 ((ws.getD i 0).toNat : Int)) := by
  obtain ⟨cs, _, hc, hr⟩ := h.iw
  exact hr.at_ (hc i hi)
theorem InS.wfree (h : InS w bs gm cm M gh gk gw p l ws n s v wr) (i : Nat) : wr.frozen? ⟨gw, i, none⟩ = false := by
  obtain ⟨cs, _, hc, hr⟩ := h.iw
  exact hr.free i
theorem InS.whas (h : InS w bs gm cm M gh gk gw p l ws n s v wr) (i : Nat) (hi : i < 64) : ∃ u, wr.cell? ⟨gw, i, none⟩ = some u := by
  obtain ⟨cs, hs, hc, hr⟩ := h.iw
  exact ⟨_, hr.at_ (Array.getElem?_eq_getElem (by omega))⟩
theorem InS.num (h : InS w bs gm cm M gh gk gw p l ws n s v wr) (i : Nat) (hi : i < 64) : wr.cell? ⟨gk, i, none⟩ = some (.int .u32 ((konst.getD i 0).toNat : Int)) :=
  h.ik.at_ (words_at konst i hi)
theorem InS.setW (h : InS w bs gm cm M gh gk gw p l ws n s v wr) (hn : n < 64) (hw : w.heap.size ≤ gw) (hb : gw < bs) (h1 : gm ≠ gw) (h2 : gh ≠ gw) (h3 : gk ≠ gw) :
    InS w bs gm cm M gh gk gw p l ws (n + 1) s v (wr.setCell ⟨gw, n, none⟩ (w32 (ws.getD n 0))) := by
  have hg := gb_set1 wr gw n (w32 (ws.getD n 0))
  obtain ⟨cs, hs, hc, hr⟩ := h.iw
  refine ⟨⟨cs.setIfInBounds n (w32 (ws.getD n 0)), by simpa using hs, fun r hr' => ?_, hr.set_ _ _⟩, h.iv.kept hg ?_, h.im.kept hg (.inr ?_), h.ih.kept hg ?_, h.ik.kept hg ?_, gb_new h.ig hg hw⟩
  · rw [Array.getElem?_setIfInBounds]
    by_cases e : n = r
    · subst e; rw [if_pos rfl, if_pos (by omega)]
    · rw [if_neg e]; exact hc r (by omega)
  · right
    intro e
    obtain ⟨hb1, _⟩ := h.iv.lt gw e
    omega
  · simpa [Value.ownBlock] using h1
  · simpa using h2
  · simpa using h3
theorem InS.next (h : InS w bs gm cm M gh gk gw p l ws n s v wr) {wr' : World} {s' : St} {v' : Value} (hg : wr.grownBy wr' none) (ho : wr'.ownsRow bs 42 1 v' 8 (s'.list.map w32)) :
    InS w bs gm cm M gh gk gw p l ws n s' v' wr' := by
  obtain ⟨cs, hs, hc, hr⟩ := h.iw
  exact ⟨⟨cs, hs, hc, hr.kept hg (by simp)⟩, ho, h.im.kept hg (.inr (by simp [Value.ownBlock])), h.ih.kept hg (by simp), h.ik.kept hg (by simp), gb_none h.ig hg⟩
end
theorem own_at {w : World} {bs g cap n : Nat} {e : TypeId} {xs : List UInt32} (h : w.ownsRow bs e 1 (.slice (some ⟨g, 0, none⟩) n cap) n (xs.map w32)) (i : Nat) (hi : i < n) (hx : xs.length = n) : w.cell? ⟨g, i, none⟩ = some (.int .u32 ((xs.getD i 0).toNat : Int)) := by
  rw [h.cellAt i (by omega)]
  exact words_at2 xs i (by omega)
theorem own_cap8 {w : World} {bs g cap n : Nat} {e : TypeId} {xs : List Value} (h : w.ownsRow bs e 1 (.slice (some ⟨g, 0, none⟩) n cap) n xs) : n ≤ cap := by
  rcases h.2 with ⟨h', _⟩ | ⟨g', cap', cur, h', _, _, h1, _⟩
  · cases h'
  · injection h' with _ _ h3
    subst h3
    exact h1
/-- The words h, turned one by one. -/
theorem put_comp (l : List UInt32) (b : List UInt8) (hl : l.length = 8) : put (l.map w32).toArray 0 (fun i => w32 ((comp l b).getD i 0)) 8 = ((comp l b).map w32).toArray :=
  put_all _ _ 8 _ (by simp [hl]) (by simp [comp_len l b hl]) fun i hi => words_get _ _ (by rw [comp_len l b hl]; exact hi)
/-- The first word anew, and seven of the old. -/
theorem own_one (w : World) (x : UInt32) : (w.alloc (.cells #[.int .u32 (x.toNat : Int)] 42)).ownsRow w.heap.size 42 1 (.slice (some ⟨w.heap.size, 0, none⟩) 1 1) 1 [.int .u32 (x.toNat : Int)] :=
  World.ownsRow_lit w #[.int .u32 (x.toNat : Int)] 1 (Nat.le_refl _) (by decide) rfl
theorem news_seven {w : World} {g : Nat} {a b c d e f gg : UInt32} (h0 : w.cell? ⟨g, 0, none⟩ = some (.int .u32 (a.toNat : Int))) (h1 : w.cell? ⟨g, 1, none⟩ = some (.int .u32 (b.toNat : Int))) (h2 : w.cell? ⟨g, 2, none⟩ = some (.int .u32 (c.toNat : Int))) (h3 : w.cell? ⟨g, 3, none⟩ = some (.int .u32 (d.toNat : Int))) (h4 : w.cell? ⟨g, 4, none⟩ = some (.int .u32 (e.toNat : Int))) (h5 : w.cell? ⟨g, 5, none⟩ = some (.int .u32 (f.toNat : Int))) (h6 : w.cell? ⟨g, 6, none⟩ = some (.int .u32 (gg.toNat : Int))) :
    ∀ j u, ([a, b, c, d, e, f, gg].map w32)[j]? = some u → w.cell? ((⟨g, 0, none⟩ : Addr).add j) = some u := fun j u hu => by
  have hadd : (⟨g, 0, none⟩ : Addr).add j = ⟨g, j, none⟩ := by unfold Addr.add; split <;> simp_all
  rw [hadd]
  match j with
  | 0 => rw [h0]; exact hu
  | 1 => rw [h1]; exact hu
  | 2 => rw [h2]; exact hu
  | 3 => rw [h3]; exact hu
  | 4 => rw [h4]; exact hu
  | 5 => rw [h5]; exact hu
  | 6 => rw [h6]; exact hu
  | k + 7 => simp at hu
theorem owns_cap {w : World} {base n g cap : Nat} {e : TypeId} {xs : List Value} (h : OwnsM w base e (.slice (some ⟨g, 0, none⟩) n cap) n xs) : n ≤ cap ∧ cap ≤ maxLen := by
  rcases h.2 with ⟨h', _⟩ | ⟨g', cap', cur, fz, h', _, _, _, h1, h2, _⟩
  · cases h'
  · injection h' with _ _ h3
    subst h3
    exact ⟨h1, h2⟩
theorem news_alloc {w : World} {g : Nat} {o : Obj} {l : List Value} (hg : g < w.heap.size) (h : ∀ j u, l[j]? = some u → w.cell? ((⟨g, 0, none⟩ : Addr).add j) = some u) :
    ∀ j u, l[j]? = some u → (w.alloc o).cell? ((⟨g, 0, none⟩ : Addr).add j) = some u := fun j u hu => by
  have hadd : (⟨g, 0, none⟩ : Addr).add j = ⟨g, j, none⟩ := by unfold Addr.add; split <;> simp_all
  have h1 := h j u hu
  rw [hadd] at h1 ⊢
  rw [World.cell?_of_block (w := w) (a := ⟨g, j, none⟩) (Below.heap_alloc w o g hg)]
  exact h1
end Go.Proofs.YtalobkggpdniaaaDoor
