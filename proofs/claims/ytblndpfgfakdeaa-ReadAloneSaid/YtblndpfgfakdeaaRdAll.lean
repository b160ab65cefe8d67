/- Texts as plain lists of bytes: those of a list, rising, each once. Texts in memory. The document's Insert: a text in a rising list, once. The program's rising: texts of the call's own, in order, each once; SameTexts. The program's Keys, told, Texts, Members, Count. The document's Keys, Items, Count. What the laws of stage 10 call: awake. -/
import Derived.Test.YtblndpfgfakdeaaFtFound
import Derived.Lib.SlicesCompact
import Derived.Sort.EncStr
import Derived.Sort.Walk0
import Derived.Test.YtblndpfgfakdeaaFtFindW
import Derived.Laws.AppendOwnNone
import Derived.Test.YtblndpfgfakdeaaShelf
import Derived.Shelf.Sort.Plain
import Derived.Shelf.Slices.CompactS
import Derived.Shelf.Slices.In.SortNone
import Derived.Sort.OwnSorted
import Derived.Lib.OwnBridge
import Derived.Test.YtblndpfgfakdeaaJnB
section
set_option linter.unusedVariables false
namespace Go.Proofs.Ytblndpfgfakdeaa.Dt
open Go Go.Lib

/-- A text, as its bytes. -/
abbrev Tx := List UInt8
def tx (b : ByteArray) : Tx := b.data.toList
theorem enc_tx (b : ByteArray) : encStr (tx b) = .string b := rfl
theorem tx_inj {a b : ByteArray} (h : tx a = tx b) : a = b := ByteArray.ext (Array.ext' h)
theorem tx_less (a b : Tx) : Op.bytesLess (⟨a.toArray⟩ : ByteArray).toList (⟨b.toArray⟩ : ByteArray).toList = decide (a < b) := by
  rw [ByteArray.toList_eq, ByteArray.toList_eq]
  exact bytesLess_eq a b
theorem tx_same (a b : Tx) : ((⟨a.toArray⟩ : ByteArray).toList == (⟨b.toArray⟩ : ByteArray).toList) = decide (a = b) := by
  rw [ByteArray.toList_eq, ByteArray.toList_eq]
  show (a == b) = decide (a = b)
  by_cases h : a = b
  · rw [h]; simp
  · rw [beq_eq_false_iff_ne.2 h, decide_eq_false h]
theorem tx_irr (a : Tx) : ¬ a < a := List.lt_irrefl a
theorem tx_trans {a b c : Tx} (h : a < b) (k : b < c) : a < c := List.lt_trans h k
theorem tx_asym {a b : Tx} (h : a < b) (k : b < a) : False := tx_irr a (tx_trans h k)
theorem tx_tri (a b : Tx) : a < b ∨ a = b ∨ b < a := by
  by_cases h : a < b
  · exact .inl h
  · by_cases k : b < a
    · exact .inr (.inr k)
    · exact .inr (.inl (List.le_antisymm (List.not_lt.1 k) (List.not_lt.1 h)))

/-- Texts that rise. -/
def Ri (l : List Tx) : Prop := l.Pairwise (· < ·)
theorem Ri.tail {x : Tx} {l : List Tx} (h : Ri (x :: l)) : Ri l := (List.pairwise_cons.1 h).2
theorem Ri.head {x : Tx} {l : List Tx} (h : Ri (x :: l)) : ∀ y ∈ l, x < y := (List.pairwise_cons.1 h).1
/-- Two such lists of the same texts are one. -/
theorem ri_canon : ∀ {a b : List Tx}, Ri a → Ri b → (∀ x, x ∈ a ↔ x ∈ b) → a = b
  | [], [], _, _, _ => rfl
  | [], y :: b, _, _, h => by have := (h y).2 (by simp); cases this
  | x :: a, [], _, _, h => by have := (h x).1 (by simp); cases this
  | x :: a, y :: b, ha, hb, h => by
    have e : x = y := by
      rcases List.mem_cons.1 ((h x).1 (by simp)) with e | h1
      · exact e
      · rcases List.mem_cons.1 ((h y).2 (by simp)) with e | h2
        · exact e.symm
        · exact (tx_asym (hb.head x h1) (ha.head y h2)).elim
    subst e
    rw [ri_canon ha.tail hb.tail fun z => ?_]
    constructor
    · intro hz
      rcases List.mem_cons.1 ((h z).1 (by simp [hz])) with e | h1
      · subst e; exact (tx_irr z (ha.head z hz)).elim
      · exact h1
    · intro hz
      rcases List.mem_cons.1 ((h z).2 (by simp [hz])) with e | h1
      · subst e; exact (tx_irr z (hb.head z hz)).elim
      · exact h1

/-- A text set in where it belongs, once. -/
def insT (s : Tx) : List Tx → List Tx
  | [] => [s]
  | x :: l => if x < s then x :: insT s l else if x = s then x :: l else s :: x :: l
theorem insT_mem (s y : Tx) : ∀ l, y ∈ insT s l ↔ y = s ∨ y ∈ l
  | [] => by simp [insT]
  | x :: l => by
    rw [insT]
    split
    · rw [List.mem_cons, insT_mem s y l, List.mem_cons]
      constructor
      · rintro (h | h | h)
        · exact .inr (.inl h)
        · exact .inl h
        · exact .inr (.inr h)
      · rintro (h | h | h)
        · exact .inr (.inl h)
        · exact .inl h
        · exact .inr (.inr h)
    · split
      · rename_i e
        subst e
        rw [List.mem_cons]
        exact ⟨fun h => .inr h, fun h => h.elim .inl id⟩
      · rw [List.mem_cons]
theorem insT_ri (s : Tx) : ∀ l, Ri l → Ri (insT s l)
  | [], _ => List.pairwise_singleton _ _
  | x :: l, h => by
    rw [insT]
    split
    · rename_i hlt
      refine List.pairwise_cons.2 ⟨fun y hy => ?_, insT_ri s l h.tail⟩
      rcases (insT_mem s y l).1 hy with e | h1
      · subst e; exact hlt
      · exact h.head y h1
    · split
      · exact h
      · rename_i h1 h2
        have hsx : s < x := by
          rcases tx_tri x s with k | k | k
          · exact absurd k h1
          · exact absurd k h2
          · exact k
        refine List.pairwise_cons.2 ⟨fun y hy => ?_, h⟩
        rcases List.mem_cons.1 hy with e | k
        · subst e; exact hsx
        · exact tx_trans hsx (h.head y k)
theorem insT_len (s : Tx) : ∀ l, (insT s l).length ≤ l.length + 1
  | [] => Nat.le_refl _
  | x :: l => by
    rw [insT]
    split
    · have := insT_len s l; simp only [List.length_cons]; omega
    · split
      · simp
      · simp
/-- Where the walk through the list stops: at a text that is no less. -/
theorem insT_at (s : Tx) : ∀ (l : List Tx) (k : Nat), (∀ j y, j < k → l[j]? = some y → y < s) → k ≤ l.length → insT s l = l.take k ++ insT s (l.drop k)
  | l, 0, _, _ => by simp
  | [], k + 1, _, h => by simp at h
  | x :: l, k + 1, h, hk => by
    have hx : x < s := h 0 x (by omega) rfl
    rw [insT, if_pos hx, List.take_succ_cons, List.drop_succ_cons, List.cons_append, insT_at s l k (fun j y hj hy => h (j + 1) y (by omega) (by simpa using hy)) (by simpa using hk)]
theorem ins_have {s : Tx} {l : List Tx} {k : Nat} (h : ∀ j y, j < k → l[j]? = some y → y < s) (he : l[k]? = some s) : insT s l = l := by
  have hk := (List.getElem?_eq_some_iff.1 he).1
  rw [insT_at s l k h (Nat.le_of_lt hk)]
  rw [List.drop_eq_getElem_cons hk, (List.getElem?_eq_some_iff.1 he).2, insT, if_neg (tx_irr s), if_pos rfl]
  have := List.take_append_drop k l
  rw [List.drop_eq_getElem_cons hk, (List.getElem?_eq_some_iff.1 he).2] at this
  exact this
theorem ins_new {s : Tx} {l : List Tx} {k : Nat} (h : ∀ j y, j < k → l[j]? = some y → y < s) (hk : k ≤ l.length) (hn : ∀ y, l[k]? = some y → ¬ y < s ∧ y ≠ s) : insT s l = l.take k ++ [s] ++ l.drop k := by
  rw [insT_at s l k h hk, List.append_assoc]
  congr 1
  by_cases h0 : k < l.length
  · have := hn l[k] (List.getElem?_eq_getElem h0)
    rw [List.drop_eq_getElem_cons h0, insT, if_neg this.1, if_neg this.2]
    rfl
  · rw [List.drop_eq_nil_of_le (by omega)]; rfl
/-- All texts of a list, rising, each once. -/
def setT (ss : List Tx) : List Tx := ss.foldl (fun l s => insT s l) []
theorem foldT (ss : List Tx) : ∀ l, Ri l → Ri (ss.foldl (fun l s => insT s l) l) ∧ (∀ x, x ∈ ss.foldl (fun l s => insT s l) l ↔ x ∈ l ∨ x ∈ ss) ∧ (ss.foldl (fun l s => insT s l) l).length ≤ l.length + ss.length := by
  induction ss with
  | nil => exact fun l h => ⟨h, fun x => by simp, by simp⟩
  | cons s ss ih =>
    intro l h
    obtain ⟨h1, h2, h3⟩ := ih (insT s l) (insT_ri s l h)
    refine ⟨h1, fun x => ?_, ?_⟩
    · rw [List.foldl_cons, h2, insT_mem, List.mem_cons]
      constructor
      · rintro ((h | h) | h)
        · exact .inr (.inl h)
        · exact .inl h
        · exact .inr (.inr h)
      · rintro (h | h | h)
        · exact .inl (.inr h)
        · exact .inl (.inl h)
        · exact .inr h
    · rw [List.foldl_cons, List.length_cons]
      have := insT_len s l
      omega
theorem setT_ri (ss : List Tx) : Ri (setT ss) := (foldT ss [] List.Pairwise.nil).1
theorem setT_mem (ss : List Tx) (x : Tx) : x ∈ setT ss ↔ x ∈ ss := by
  unfold setT; rw [(foldT ss [] List.Pairwise.nil).2.1]; simp
theorem setT_len (ss : List Tx) : (setT ss).length ≤ ss.length := by
  have := (foldT ss [] List.Pairwise.nil).2.2
  unfold setT; simp only [List.length_nil] at this; omega
theorem setT_more (ss : List Tx) (s : Tx) : setT (ss ++ [s]) = insT s (setT ss) := by
  unfold setT; rw [List.foldl_append]; rfl
theorem setT_nil : setT [] = [] := rfl
theorem setT_same {a b : List Tx} (h : ∀ x, x ∈ a ↔ x ∈ b) : setT a = setT b := ri_canon (setT_ri a) (setT_ri b) fun x => by rw [setT_mem, setT_mem, h]
/-- What rises is as it is. -/
theorem setT_self {l : List Tx} (h : Ri l) : setT l = l := ri_canon (setT_ri l) h fun x => setT_mem l x

/-! The library's Compact of what its Sort leaves. -/
theorem compact_step (d : Array Tx) (hd : ∀ i j, i ≤ j → j < d.size → d[i]! ≤ d[j]!) : ∀ m, m ≤ d.size → Ri (compactUpTo d m) ∧ ∀ x, x ∈ compactUpTo d m ↔ ∃ j, j < m ∧ d[j]! = x
  | 0, _ => ⟨by unfold compactUpTo; exact List.Pairwise.nil, fun x => by unfold compactUpTo; simp⟩
  | m + 1, hm => by
    obtain ⟨h1, h2⟩ := compact_step d hd m (by omega)
    rw [compactUpTo_succ]
    by_cases hk : keeps d m = true
    · rw [if_pos hk]
      refine ⟨?_, fun x => ?_⟩
      · refine List.pairwise_append.2 ⟨h1, List.pairwise_singleton _ _, fun a ha b hb => ?_⟩
        rw [List.mem_singleton.1 hb]
        obtain ⟨j, hj, rfl⟩ := (h2 a).1 ha
        have hne : d[m]! ≠ d[m - 1]! := by
          unfold keeps at hk
          have := of_decide_eq_true hk
          exact this.resolve_left (by omega)
        have k1 := hd j (m - 1) (by omega) (by omega)
        have k2 := hd (m - 1) m (by omega) (by omega)
        have k3 : d[m - 1]! < d[m]! := by
          rcases tx_tri d[m - 1]! d[m]! with k | k | k
          · exact k
          · exact absurd k.symm hne
          · exact absurd k (List.not_lt.2 k2)
        rcases tx_tri d[j]! d[m - 1]! with k | k | k
        · exact tx_trans k k3
        · rw [k]; exact k3
        · exact absurd k (List.not_lt.2 k1)
      · rw [List.mem_append, h2, List.mem_singleton]
        constructor
        · rintro (⟨j, hj, e⟩ | e)
          · exact ⟨j, by omega, e⟩
          · exact ⟨m, by omega, e.symm⟩
        · rintro ⟨j, hj, e⟩
          by_cases hjm : j = m
          · subst hjm; exact .inr e.symm
          · exact .inl ⟨j, by omega, e⟩
    · rw [if_neg hk, List.append_nil]
      have hk' : m ≠ 0 ∧ d[m]! = d[m - 1]! := by
        unfold keeps at hk
        rw [decide_eq_true_eq] at hk
        exact ⟨fun h => hk (.inl h), Classical.byContradiction fun h => hk (.inr h)⟩
      refine ⟨h1, fun x => ?_⟩
      rw [h2]
      constructor
      · rintro ⟨j, hj, e⟩
        exact ⟨j, by omega, e⟩
      · rintro ⟨j, hj, e⟩
        by_cases hjm : j = m
        · subst hjm; exact ⟨j - 1, by omega, by rw [← hk'.2]; exact e⟩
        · exact ⟨j, by omega, e⟩
theorem compact_sort (ss : List Tx) : compact (ss.mergeSort fun x y => decide (x ≤ y)) = setT ss := by
  have tr : ∀ a b c : Tx, decide (a ≤ b) = true → decide (b ≤ c) = true → decide (a ≤ c) = true := fun a b c h1 h2 => by simp only [decide_eq_true_eq] at *; exact List.le_trans h1 h2
  have tot : ∀ a b : Tx, (decide (a ≤ b) || decide (b ≤ a)) = true := fun a b => by simp only [Bool.or_eq_true, decide_eq_true_eq]; exact List.le_total a b
  have hs := List.pairwise_mergeSort tr tot ss
  have hp := List.mergeSort_perm ss fun x y => decide (x ≤ y)
  generalize (ss.mergeSort fun x y => decide (x ≤ y)) = l at *
  have hd : ∀ i j, i ≤ j → j < l.toArray.size → l.toArray[i]! ≤ l.toArray[j]! := fun i j hij hj => by
    have hj' : j < l.length := by simpa using hj
    rw [getElem!_pos l.toArray i (by simpa using (by omega : i < l.length)), getElem!_pos l.toArray j hj]
    show l[i] ≤ l[j]
    by_cases e : i = j
    · subst e; exact List.le_refl _
    · exact of_decide_eq_true (List.pairwise_iff_getElem.1 hs i j (by omega) hj' (by omega))
  obtain ⟨h1, h2⟩ := compact_step l.toArray hd l.length (by simp)
  refine ri_canon h1 (setT_ri ss) fun x => ?_
  show x ∈ compactUpTo l.toArray l.length ↔ _
  rw [h2, setT_mem, ← hp.mem_iff]
  constructor
  · rintro ⟨j, hj, rfl⟩
    rw [getElem!_pos l.toArray j (by simpa using hj)]
    exact List.getElem_mem (l := l) hj
  · intro hx
    obtain ⟨j, hj, rfl⟩ := List.getElem_of_mem hx
    exact ⟨j, hj, by rw [getElem!_pos l.toArray j (by simpa using hj)]; rfl⟩

/-! What a state says. -/
def keysT (l : List Fc) : List Tx := setT (l.map fun f => tx f.key)
def itemsT (l : List Fc) (key : ByteArray) (kind : Int) : List Tx := setT ((findL l key kind).map fun f => tx f.item)
def sumW (l : List Fc) : Int := l.foldl (fun a f => IntKind.i64.wrap (a + f.v)) 0
def countT (l : List Fc) (key : ByteArray) : Int := sumW (findL l key 3)
theorem sumW_more (l : List Fc) (f : Fc) : sumW (l ++ [f]) = IntKind.i64.wrap (sumW l + f.v) := by
  unfold sumW; rw [List.foldl_append]; rfl
theorem keysT_len (l : List Fc) : (keysT l).length ≤ l.length := by
  have := setT_len (l.map fun f => tx f.key)
  unfold keysT; rwa [List.length_map] at this
theorem itemsT_len (l : List Fc) (key : ByteArray) (kind : Int) : (itemsT l key kind).length ≤ l.length := by
  have := setT_len ((findL l key kind).map fun f => tx f.item)
  have h2 := find_len l key kind
  rw [List.length_map] at this
  unfold itemsT; omega
end Go.Proofs.Ytblndpfgfakdeaa.Dt
end

namespace Go.Proofs.Ytblndpfgfakdeaa.Dt
open Go Go.RowKit Go.Proofs.Ytblndpfgfakdeaa.Mm Go.Proofs.Ytblndpfgfakdeaa.Td

theorem str_inf : (Try.prog.info? 9).map (fun i => (i.zero, i.size, i.bytes)) = some (some (.string ⟨#[]⟩), 1, 16) := by kernel_rfl
/-- The cells of texts. -/
def sv (l : List Tx) : List Value := l.map encStr
theorem sv_len (l : List Tx) : (sv l).length = l.length := by unfold sv; rw [List.length_map]
theorem sv_append (a b : List Tx) : sv (a ++ b) = sv a ++ sv b := by unfold sv; rw [List.map_append]
theorem sv_one (l : List Tx) : ∀ u ∈ sv l, u.oneCell' = true := fun u hu => by
  unfold sv at hu
  obtain ⟨x, _, rfl⟩ := List.mem_map.1 hu
  rfl
theorem sv_at {l : List Tx} {i : Nat} {x : Tx} (h : l[i]? = some x) : (sv l)[i]? = some (encStr x) := by
  unfold sv; rw [List.getElem?_map, h]; rfl
/-- The slice at A, of n texts, reads as these. -/
def TL (w : World) (A : Option Addr) (n : Nat) (l : List Tx) : Prop :=
  l.length = n ∧ (0 < n → ∃ g o, A = some ⟨g, o, none⟩ ∧ g < w.heap.size ∧ ∀ i x, l[i]? = some x → w.cell? ⟨g, o + i, none⟩ = some (encStr x))
theorem TL.kept {w w' : World} {A : Option Addr} {n : Nat} {l : List Tx} {r : Option Nat} (h : TL w A n l) (hg : w.grownBy w' r) (hr : ∀ g o, A = some ⟨g, o, none⟩ → some g ≠ r) : TL w' A n l := by
  refine ⟨h.1, fun hn => ?_⟩
  obtain ⟨g, o, e, hl, hc⟩ := h.2 hn
  exact ⟨g, o, e, Nat.lt_of_lt_of_le hl hg.size, fun i x hx => (World.cell?_of_block (a := ⟨g, o + i, none⟩) (hg.block g hl (hr g o e))).trans (hc i x hx)⟩
theorem TL.keep {w w' : World} {A : Option Addr} {n : Nat} {l : List Tx} (h : TL w A n l) (hg : w.grownBy w' none) : TL w' A n l := h.kept hg (fun _ _ _ => by simp)
theorem TL.none (w : World) (A : Option Addr) : TL w A 0 [] := ⟨rfl, fun h => absurd h (by omega)⟩
theorem tl_at {w : World} {g o n : Nat} {l : List Tx} (h : TL w (some ⟨g, o, none⟩) n l) {i : Nat} {x : Tx} (hx : l[i]? = some x) : w.cell? ⟨g, o + i, none⟩ = some (encStr x) := by
  have hi := (List.getElem?_eq_some_iff.1 hx).1
  obtain ⟨g', o', e, _, hc⟩ := h.2 (by have := h.1; omega)
  simp only [Option.some.injEq, Addr.mk.injEq, and_true] at e
  obtain ⟨rfl, rfl⟩ := e
  exact hc i x hx
theorem own_tl {w : World} {B n : Nat} {t : TypeId} {v : Value} {l : List Tx} (h : w.ownsRow B t 1 v n (sv l)) (hn : l.length = n) : ∃ A c, v = .slice A n c ∧ TL w A n l ∧ n ≤ c ∧ (A = none → c = 0) := by
  have hcells := fun (g : Nat) (hg : v.ownBlock = some g) => World.ownsRow.cells h hg
  rcases h.2 with ⟨rfl, h0⟩ | ⟨g, cap, cur, rfl, hB, hg, hle, _⟩
  · exact ⟨none, 0, by rw [h0], ⟨hn, fun hp => absurd hp (by omega)⟩, by omega, fun _ => rfl⟩
  · refine ⟨_, cap, rfl, ⟨hn, fun _ => ⟨g, 0, rfl, (Array.getElem?_eq_some_iff.1 hg).1, fun i x hx => ?_⟩⟩, hle, fun h => by cases h⟩
    have := hcells g rfl i _ (sv_at hx)
    have hadd : (⟨g, 0, none⟩ : Addr).add i = ⟨g, 0 + i, none⟩ := by unfold Addr.add; split <;> simp_all
    rwa [hadd] at this
theorem ot_far {w : World} {B : Nat} {e : TypeId} {v : Value} {n : Nat} {xs : List Value} (h : w.ownsRow B e 1 v n xs) : ∀ i, v.ownBlock = some i → B ≤ i := fun i hi => by
  rcases h.2 with ⟨rfl, _⟩ | ⟨g, cap, cur, rfl, hB, _⟩
  · simp [Value.ownBlock] at hi
  · simp [Value.ownBlock] at hi; omega
theorem ot_slice {w : World} {B n : Nat} {t : TypeId} {v : Value} {xs : List Value} (h : w.ownsRow B t 1 v n xs) : ∃ A c, v = .slice A n c := by
  rcases h.2 with ⟨rfl, h0⟩ | ⟨g, cap, cur, rfl, _⟩
  · exact ⟨none, 0, by rw [h0]⟩
  · exact ⟨_, cap, rfl⟩
/-- What an append reads of a slice that reads as texts. -/
theorem tl_news {w : World} {g o n : Nat} {l : List Tx} (h : TL w (some ⟨g, o, none⟩) n l) : ∀ j u, (sv l)[j]? = some u → w.cell? ((⟨g, o, none⟩ : Addr).add j) = some u := fun j u hu => by
  have hj : j < l.length := by rw [← sv_len]; exact (List.getElem?_eq_some_iff.1 hu).1
  have hx : l[j]? = some l[j] := List.getElem?_eq_getElem hj
  rw [sv_at hx] at hu
  have hadd : (⟨g, o, none⟩ : Addr).add j = ⟨g, o + j, none⟩ := by unfold Addr.add; split <;> simp_all
  rw [hadd, ← hu]
  exact tl_at h hx
/-- Texts that were told. -/
def Texts (l : List Tx) (w : World) (e : Ending) (w' : World) : Prop := ∃ A c, e = .returned (.slice A l.length c) ∧ TL w' A l.length l ∧ l.length ≤ c ∧ (A = none → c = 0) ∧ w.grownBy w' none
end Go.Proofs.Ytblndpfgfakdeaa.Dt

namespace Go.Proofs.Ytblndpfgfakdeaa.Dt
open Go Go.RowKit Go.Proofs.Ytblndpfgfakdeaa.Mm Go.Proofs.Ytblndpfgfakdeaa.Td

theorem str_lt {a b : ByteArray} (h : tx a < tx b) : Op.bytesLess a.toList b.toList = true := by
  rw [ByteArray.toList_eq, ByteArray.toList_eq, bytesLess_eq]; exact decide_eq_true h
theorem str_nlt {a b : ByteArray} (h : ¬ tx a < tx b) : Op.bytesLess a.toList b.toList = false := by
  rw [ByteArray.toList_eq, ByteArray.toList_eq, bytesLess_eq]; exact decide_eq_false h
theorem tx_val (x : Tx) : ∃ b : ByteArray, encStr x = .string b ∧ tx b = x := ⟨⟨x.toArray⟩, rfl, rfl⟩
theorem own_empty (w : World) (t : TypeId) : (w.alloc (.cells #[] t)).ownsRow w.heap.size t 1 (.slice (some ⟨w.heap.size, 0, none⟩) 0 0) 0 (sv []) :=
  ⟨rfl, .inr ⟨w.heap.size, 0, #[], rfl, Nat.le_refl _, heap_alloc_new w _, Nat.le_refl _, by decide, rfl, rfl⟩⟩
theorem tl_take {w : World} {A : Option Addr} {n k : Nat} {l : List Tx} (h : TL w A n l) (hk : k ≤ n) : TL w A k (l.take k) := by
  refine ⟨by rw [List.length_take, h.1]; omega, fun h0 => ?_⟩
  obtain ⟨g, o, e, hl, hc⟩ := h.2 (by omega)
  refine ⟨g, o, e, hl, fun i x hx => hc i x ?_⟩
  have hi : i < k := by have := (List.getElem?_eq_some_iff.1 hx).1; rw [List.length_take] at this; omega
  rwa [List.getElem?_take, if_pos hi] at hx
theorem tl_drop {w : World} {g o n k : Nat} {l : List Tx} (h : TL w (some ⟨g, o, none⟩) n l) (hk : k ≤ n) : TL w (some ⟨g, o + k, none⟩) (n - k) (l.drop k) := by
  refine ⟨by rw [List.length_drop, h.1], fun h0 => ?_⟩
  obtain ⟨g', o', e, hl, hc⟩ := h.2 (by omega)
  simp only [Option.some.injEq, Addr.mk.injEq, and_true] at e
  obtain ⟨rfl, rfl⟩ := e
  refine ⟨g, o + k, rfl, hl, fun i x hx => ?_⟩
  rw [List.getElem?_drop] at hx
  have := hc (k + i) x hx
  rwa [← Nat.add_assoc] at this
theorem ins_own {W : World} {B n k : Nat} {t : TypeId} {v : Value} {l : List Tx} {s : Tx} (h : W.ownsRow B t 1 v (k + 1 + (n - k)) ((sv (l.take k) ++ sv [s]) ++ sv (l.drop k))) (hn : l.length = n) (hk : k ≤ n) (e : insT s l = l.take k ++ [s] ++ l.drop k) : W.ownsRow B t 1 v (insT s l).length (sv (insT s l)) := by
  have hl : (insT s l).length = k + 1 + (n - k) := by
    rw [e]; simp only [List.length_append, List.length_take, List.length_drop, List.length_singleton]; omega
  rw [hl, e, sv_append, sv_append]
  exact h
/-- The slice operation from a place on. -/
theorem cut_tail (t e : TypeId) (n c k g o : Nat) (W : World) (ht : Try.prog.underlying t = some (.slice e)) (hs : (sizeOf e).run Try.prog W = .ok 1 W) (hk : k ≤ n) :
    (Instr.slice t (.slice (some ⟨g, o, none⟩) n c) (some (.int .i64 (k : Int))) none none).run Try.prog W = .ok (.slice (some ⟨g, if c = k then o else o + k, none⟩) (n - k) (c - k)) W := by
  have h1 : (0 : Int) ≤ (k : Int) := by omega
  have h2 : (k : Int) ≤ (n : Int) := by omega
  simp [Instr.slice, run_underlying ht, Instr.sliceBounds, run_sliceBound, hs, h1, h2]
  split
  · rfl
  · simp [Addr.add]
theorem cut_head (t e : TypeId) (n c k g o : Nat) (W : World) (ht : Try.prog.underlying t = some (.slice e)) (hs : (sizeOf e).run Try.prog W = .ok 1 W) (hk : k ≤ c) :
    (Instr.slice t (.slice (some ⟨g, o, none⟩) n c) none (some (.int .i64 (k : Int))) none).run Try.prog W = .ok (.slice (some ⟨g, o, none⟩) k c) W := by
  have h1 : (0 : Int) ≤ (k : Int) := by omega
  have h2 : (k : Int) ≤ (c : Int) := by omega
  simp [Instr.slice, run_underlying ht, Instr.sliceBounds, run_sliceBound, hs, h1, h2]
  exact fun _ => rfl
theorem size_str (W : World) : (sizeOf 9).run Try.prog W = .ok 1 W := by
  simp [sizeOf]
  kernel_rfl

set_option maxHeartbeats 16000000 in
set_option maxRecDepth 100000 in
theorem insert_some (g o n c : Nat) (l : List Tx) (s : ByteArray) (w : World) (hl : TL w (some ⟨g, o, none⟩) n l) (hc : n ≤ c) (hn : n ≤ 100000) :
    Calls Try.prog 65 #[.slice (some ⟨g, o, none⟩) n c, .string s] w (Texts (insT (tx s) l) w) := by
  have Hl := Lib.hid hl
  have Hn : Hid (n ≤ c ∧ n ≤ 100000) := ⟨hc, hn⟩
  clear hl hc hn
  go_enter Try.func65, Try.ntmps65
  go_wp2_with fail
  go_loopw [5] (fun i wr => ∃ k : Nat, k ≤ n ∧ i = .int .i64 k ∧ Hid (∀ j y, j < k → l[j]? = some y → y < tx s) ∧ w = wr) (fun i _ => n - (intOf i).toNat)
  case atStart => exact ⟨0, Nat.zero_le _, rfl, fun j y hj => absurd hj (by omega), rfl⟩
  case round =>
    obtain ⟨k, hk, rfl, HX, rfl⟩ := hrel
    have HB : Hid (k ≤ n ∧ n ≤ c ∧ n ≤ 100000) := ⟨hk, Hn.out⟩
    by_cases hlt : k < n
    · have d1 : decide (k < n) = true := decide_eq_true hlt
      have d2 : decide ((k : Int) < (n : Int)) = true := decide_eq_true (by omega)
      have bk : (k : Int) < (n : Int) := by omega
      obtain ⟨x, hx⟩ : ∃ x, l[k]? = some x := ⟨_, List.getElem?_eq_getElem (by rw [Hl.out.1]; exact hlt)⟩
      have h0 := tl_at Hl.out hx
      obtain ⟨bx, ex, tX⟩ := tx_val x
      rw [ex] at h0
      have Hx := Lib.hid hx
      have Hlt := Lib.hid hlt
      clear hx ex
      by_cases hxs : x < tx s
      · have t1 := str_lt (a := bx) (b := s) (by rw [tX]; exact hxs)
        have Hnext : Hid (∀ j y, j < k + 1 → l[j]? = some y → y < tx s) := fun j y hj hy => by
          by_cases e : j = k
          · subst e
            obtain rfl : x = y := Option.some.inj (Hx.out.symm.trans hy)
            exact hxs
          · exact HX.out j y (by omega) hy
        have ht : IntKind.i64.wrap ((k : Int) + 1) = ((k + 1 : Nat) : Int) := by rw [IntKind.wrap_i64]; have := HB.out; omega
        clear hxs tX
        go_wp2_with fail
        go_roundw
        case rel => exact ⟨k + 1, by have := Hlt.out; omega, by go_num, Hnext, (by first | rfl | trivial)⟩
        case measure => simp [intOf]; have := Hlt.out; omega
      · have t1 := str_nlt (a := bx) (b := s) (by rw [tX]; exact hxs)
        by_cases he : x = tx s
        · have t2 := str_eq (tx_inj (tX.trans he))
          have Hsame : Hid (insT (tx s) l = l) := ins_have HX.out (by rw [← he]; exact Hx.out)
          clear hxs he tX
          go_wp2_with fail
          go_ret
          show Texts _ w _ _
          rw [Hsame.out]
          refine ⟨some ⟨g, o, none⟩, c, by rw [Hl.out.1]; rfl, ?_, ?_, fun h => (by cases h), gb_refl _ _⟩
          · rw [Hl.out.1]; exact Hl.out
          · rw [Hl.out.1]; exact HB.out.2.1
        · have t2 := str_ne (fun h => he (tX.symm.trans (congrArg tx h)) : ¬ bx = s)
          have Hnew : Hid (insT (tx s) l = l.take k ++ [tx s] ++ l.drop k) := ins_new HX.out (by rw [Hl.out.1]; exact HB.out.1) fun y hy => by
            obtain rfl : x = y := Option.some.inj (Hx.out.symm.trans hy)
            exact ⟨hxs, he⟩
          clear hxs he tX
          go_upto_region 6 with fail
          obtain ⟨i0, hi0, hz0, hz1, hz2⟩ := info_parts6 str_inf
          have Hi0 := Lib.hid hi0
          have Hz0 := Lib.hid hz0
          have Hz1 := Lib.hid hz1
          have Hz2 := Lib.hid hz2
          clear hi0 hz0 hz1 hz2
          have hS1 : ∀ W, (Instr.slice 58 (.slice (some ⟨g, o, none⟩) n c) none (some (.int .i64 (k : Int))) none).run Try.prog W = .ok (.slice (some ⟨g, o, none⟩) k c) W := fun W => cut_head _ _ _ _ _ _ _ W Try.underlying58 (size_str W) (by have := HB.out; omega)
          have HS2 : Hid (∀ W, (Instr.slice 58 (.slice (some ⟨g, o, none⟩) n c) (some (.int .i64 (k : Int))) none none).run Try.prog W = .ok (.slice (some ⟨g, if c = k then o else o + k, none⟩) (n - k) (c - k)) W) := fun W => cut_tail _ _ _ _ _ _ _ W Try.underlying58 (size_str W) (by have := HB.out; omega)
          obtain ⟨B, hB⟩ : ∃ B, w.heap.size = B := ⟨_, rfl⟩
          have HBw := Lib.hid hB
          have Hown0 : Hid ((w.alloc (.cells #[] 9)).ownsRow B 9 1 (.slice (some ⟨B, 0, none⟩) 0 0) 0 (sv [])) := by show World.ownsRow _ _ _ _ _ _ _; rw [← hB]; exact own_empty w _
          have Hga : Hid (w.grownBy (w.alloc (.cells #[] 9)) none) := gb_alloc (gb_refl _ _) _
          have Htk : Hid (TL (w.alloc (.cells #[] 9)) (some ⟨g, o, none⟩) k (l.take k)) := tl_take (Hl.out.keep Hga.out) (by have := HB.out; omega)
          have Hb1 : Hid (B ≤ (w.alloc (.cells #[] 9)).heap.size) := by show _ ≤ _; rw [World.size_alloc]; have := HBw.out; omega
          clear h0 t1 t2 d1 d2 bk hk hlt
          go_upto_region 7 with (at_builtin; go_must (refine wpList_append_own _ rfl (.tmp 34) (.tmp 37) 58 rfl B 9 i0 (.string ⟨#[]⟩) 1 16 Try.underlying58 Hi0.out Hz0.out Hz1.out Hz2.out rfl (by decide) _ 0 _ rfl Hown0.out ⟨g, o, none⟩ k c (sv (l.take k)) rfl (by rw [sv_len, Htk.out.1]; omega) (tl_news Htk.out) (sv_one _) (by have := HB.out; simp only [maxLen]; omega) (by have := HB.out; omega) Hb1.out ?_); intro v1 W1 own1 grow1 _; have Own1 : Hid (W1.ownsRow B 9 1 v1 k (sv (l.take k))) := (by rw [Nat.zero_add] at own1; exact own1); have Hg1 : Hid (w.grownBy W1 none) := gb_step Hga.out grow1 (fun i e => .inr (by rw [HBw.out]; exact ot_far Hown0.out i e)); clear own1 grow1; obtain ⟨A1, c1, hv1⟩ := ot_slice Own1.out; subst hv1)
          obtain ⟨B1, hB1⟩ : ∃ B1, W1.heap.size = B1 := ⟨_, rfl⟩
          have HB1 := Lib.hid hB1
          have Hown1 : Hid ((W1.alloc (.cells #[.string s] 9)).ownsRow B 9 1 (.slice A1 k c1) k (sv (l.take k))) := Own1.out.alloc _
          have Hgb : Hid (w.grownBy (W1.alloc (.cells #[.string s] 9)) none) := gb_alloc Hg1.out _
          have Hb2 : Hid (B ≤ (W1.alloc (.cells #[.string s] 9)).heap.size) := by show _ ≤ _; have h1 := Hgb.out.size; have := HBw.out; omega
          have Hnw : Hid (∀ j u, (sv [tx s])[j]? = some u → (W1.alloc (.cells #[.string s] 9)).cell? ((⟨B1, 0, none⟩ : Addr).add j) = some u) := by
            rw [← hB1]
            exact World.news_of_block (cs := #[.string s]) (t := 9) (fr := (0, 0)) (heap_alloc_new W1 (.cells #[.string s] 9))
          clear hS1
          go_upto_region 8 with (at_builtin; go_must (refine wpList_append_own _ rfl (.tmp 39) (.tmp 41) 58 rfl B 9 i0 (.string ⟨#[]⟩) 1 16 Try.underlying58 Hi0.out Hz0.out Hz1.out Hz2.out rfl (by decide) _ k _ rfl Hown1.out ⟨B1, 0, none⟩ 1 1 (sv [tx s]) rfl rfl Hnw.out (sv_one _) (by have := HB.out; simp only [maxLen]; omega) (by have := HB.out; omega) Hb2.out ?_); intro v2 W2 own2 grow2 _; have Own2 := Lib.hid own2; have Hg2 : Hid (w.grownBy W2 none) := gb_step Hgb.out grow2 (fun i e => .inr (by rw [HBw.out]; exact ot_far Hown1.out i e)); clear own2 grow2; obtain ⟨A2, c2, hv2⟩ := ot_slice Own2.out; subst hv2)
          have hS2 := HS2.out
          obtain ⟨oo, hoo⟩ : ∃ oo, (if c = k then o else o + k) = oo := ⟨_, rfl⟩
          rw [hoo] at hS2
          have Hdr : Hid (TL W2 (some ⟨g, oo, none⟩) (n - k) (l.drop k)) := by
            have h := tl_drop (k := k) (Hl.out.keep Hg2.out) (by have := HB.out; omega)
            rw [← hoo]
            show TL _ _ _ _
            split
            · rename_i e
              have hz : n - k = 0 := by have := HB.out; omega
              rw [hz] at h ⊢
              exact ⟨h.1, fun h0 => absurd h0 (by omega)⟩
            · exact h
          have Hb3 : Hid (B ≤ W2.heap.size) := by show _ ≤ _; have h1 := Hg2.out.size; have := HBw.out; omega
          clear hoo
          go_wp2_with (at_builtin; go_must (refine wpList_append_own _ rfl (.tmp 43) (.tmp 46) 58 rfl B 9 i0 (.string ⟨#[]⟩) 1 16 Try.underlying58 Hi0.out Hz0.out Hz1.out Hz2.out rfl (by decide) _ (k + 1) _ rfl Own2.out ⟨g, oo, none⟩ (n - k) (c - k) (sv (l.drop k)) rfl (by rw [sv_len, Hdr.out.1]; omega) (tl_news Hdr.out) (sv_one _) (by have := HB.out; simp only [maxLen]; omega) (by have := HB.out; omega) Hb3.out ?_); intro v3 W3 own3 grow3 _; have Own3 := Lib.hid own3; have Hg3 : Hid (w.grownBy W3 none) := gb_step Hg2.out grow3 (fun i e => .inr (by rw [HBw.out]; exact ot_far Own2.out i e)); clear own3 grow3; obtain ⟨A3, c3, hv3⟩ := ot_slice Own3.out; subst hv3)
          go_ret
          obtain ⟨A, cc, e1, e2, e3, e4⟩ := own_tl (ins_own Own3.out Hl.out.1 (by have := HB.out; omega) Hnew.out) rfl
          exact ⟨A, cc, by rw [e1]; rfl, e2, e3, e4, Hg3.out⟩
    · have d1 : decide (k < n) = false := decide_eq_false hlt
      have d2 : decide ((k : Int) < (n : Int)) = false := decide_eq_false (by omega)
      have Hnew : Hid (insT (tx s) l = l.take k ++ [tx s] ++ l.drop k) := ins_new HX.out (by rw [Hl.out.1]; exact hk) fun y hy => by
        have := (List.getElem?_eq_some_iff.1 hy).1
        rw [Hl.out.1] at this
        omega
      go_upto_region 6 with fail
      obtain ⟨i0, hi0, hz0, hz1, hz2⟩ := info_parts6 str_inf
      have Hi0 := Lib.hid hi0
      have Hz0 := Lib.hid hz0
      have Hz1 := Lib.hid hz1
      have Hz2 := Lib.hid hz2
      clear hi0 hz0 hz1 hz2
      have hS1 : ∀ W, (Instr.slice 58 (.slice (some ⟨g, o, none⟩) n c) none (some (.int .i64 (k : Int))) none).run Try.prog W = .ok (.slice (some ⟨g, o, none⟩) k c) W := fun W => cut_head _ _ _ _ _ _ _ W Try.underlying58 (size_str W) (by have := HB.out; omega)
      have HS2 : Hid (∀ W, (Instr.slice 58 (.slice (some ⟨g, o, none⟩) n c) (some (.int .i64 (k : Int))) none none).run Try.prog W = .ok (.slice (some ⟨g, if c = k then o else o + k, none⟩) (n - k) (c - k)) W) := fun W => cut_tail _ _ _ _ _ _ _ W Try.underlying58 (size_str W) (by have := HB.out; omega)
      obtain ⟨B, hB⟩ : ∃ B, w.heap.size = B := ⟨_, rfl⟩
      have HBw := Lib.hid hB
      have Hown0 : Hid ((w.alloc (.cells #[] 9)).ownsRow B 9 1 (.slice (some ⟨B, 0, none⟩) 0 0) 0 (sv [])) := by show World.ownsRow _ _ _ _ _ _ _; rw [← hB]; exact own_empty w _
      have Hga : Hid (w.grownBy (w.alloc (.cells #[] 9)) none) := gb_alloc (gb_refl _ _) _
      have Htk : Hid (TL (w.alloc (.cells #[] 9)) (some ⟨g, o, none⟩) k (l.take k)) := tl_take (Hl.out.keep Hga.out) (by have := HB.out; omega)
      have Hb1 : Hid (B ≤ (w.alloc (.cells #[] 9)).heap.size) := by show _ ≤ _; rw [World.size_alloc]; have := HBw.out; omega
      clear d1 d2 hlt hk
      go_upto_region 7 with (at_builtin; go_must (refine wpList_append_own _ rfl (.tmp 34) (.tmp 37) 58 rfl B 9 i0 (.string ⟨#[]⟩) 1 16 Try.underlying58 Hi0.out Hz0.out Hz1.out Hz2.out rfl (by decide) _ 0 _ rfl Hown0.out ⟨g, o, none⟩ k c (sv (l.take k)) rfl (by rw [sv_len, Htk.out.1]; omega) (tl_news Htk.out) (sv_one _) (by have := HB.out; simp only [maxLen]; omega) (by have := HB.out; omega) Hb1.out ?_); intro v1 W1 own1 grow1 _; have Own1 : Hid (W1.ownsRow B 9 1 v1 k (sv (l.take k))) := (by rw [Nat.zero_add] at own1; exact own1); have Hg1 : Hid (w.grownBy W1 none) := gb_step Hga.out grow1 (fun i e => .inr (by rw [HBw.out]; exact ot_far Hown0.out i e)); clear own1 grow1; obtain ⟨A1, c1, hv1⟩ := ot_slice Own1.out; subst hv1)
      obtain ⟨B1, hB1⟩ : ∃ B1, W1.heap.size = B1 := ⟨_, rfl⟩
      have HB1 := Lib.hid hB1
      have Hown1 : Hid ((W1.alloc (.cells #[.string s] 9)).ownsRow B 9 1 (.slice A1 k c1) k (sv (l.take k))) := Own1.out.alloc _
      have Hgb : Hid (w.grownBy (W1.alloc (.cells #[.string s] 9)) none) := gb_alloc Hg1.out _
      have Hb2 : Hid (B ≤ (W1.alloc (.cells #[.string s] 9)).heap.size) := by show _ ≤ _; have h1 := Hgb.out.size; have := HBw.out; omega
      have Hnw : Hid (∀ j u, (sv [tx s])[j]? = some u → (W1.alloc (.cells #[.string s] 9)).cell? ((⟨B1, 0, none⟩ : Addr).add j) = some u) := by
        rw [← hB1]
        exact World.news_of_block (cs := #[.string s]) (t := 9) (fr := (0, 0)) (heap_alloc_new W1 (.cells #[.string s] 9))
      clear hS1
      go_upto_region 8 with (at_builtin; go_must (refine wpList_append_own _ rfl (.tmp 39) (.tmp 41) 58 rfl B 9 i0 (.string ⟨#[]⟩) 1 16 Try.underlying58 Hi0.out Hz0.out Hz1.out Hz2.out rfl (by decide) _ k _ rfl Hown1.out ⟨B1, 0, none⟩ 1 1 (sv [tx s]) rfl rfl Hnw.out (sv_one _) (by have := HB.out; simp only [maxLen]; omega) (by have := HB.out; omega) Hb2.out ?_); intro v2 W2 own2 grow2 _; have Own2 := Lib.hid own2; have Hg2 : Hid (w.grownBy W2 none) := gb_step Hgb.out grow2 (fun i e => .inr (by rw [HBw.out]; exact ot_far Hown1.out i e)); clear own2 grow2; obtain ⟨A2, c2, hv2⟩ := ot_slice Own2.out; subst hv2)
      have hS2 := HS2.out
      obtain ⟨oo, hoo⟩ : ∃ oo, (if c = k then o else o + k) = oo := ⟨_, rfl⟩
      rw [hoo] at hS2
      have Hdr : Hid (TL W2 (some ⟨g, oo, none⟩) (n - k) (l.drop k)) := by
        have h := tl_drop (k := k) (Hl.out.keep Hg2.out) (by have := HB.out; omega)
        rw [← hoo]
        show TL _ _ _ _
        split
        · rename_i e
          have hz : n - k = 0 := by have := HB.out; omega
          rw [hz] at h ⊢
          exact ⟨h.1, fun h0 => absurd h0 (by omega)⟩
        · exact h
      have Hb3 : Hid (B ≤ W2.heap.size) := by show _ ≤ _; have h1 := Hg2.out.size; have := HBw.out; omega
      clear hoo
      go_wp2_with (at_builtin; go_must (refine wpList_append_own _ rfl (.tmp 43) (.tmp 46) 58 rfl B 9 i0 (.string ⟨#[]⟩) 1 16 Try.underlying58 Hi0.out Hz0.out Hz1.out Hz2.out rfl (by decide) _ (k + 1) _ rfl Own2.out ⟨g, oo, none⟩ (n - k) (c - k) (sv (l.drop k)) rfl (by rw [sv_len, Hdr.out.1]; omega) (tl_news Hdr.out) (sv_one _) (by have := HB.out; simp only [maxLen]; omega) (by have := HB.out; omega) Hb3.out ?_); intro v3 W3 own3 grow3 _; have Own3 := Lib.hid own3; have Hg3 : Hid (w.grownBy W3 none) := gb_step Hg2.out grow3 (fun i e => .inr (by rw [HBw.out]; exact ot_far Own2.out i e)); clear own3 grow3; obtain ⟨A3, c3, hv3⟩ := ot_slice Own3.out; subst hv3)
      go_ret
      obtain ⟨A, cc, e1, e2, e3, e4⟩ := own_tl (ins_own Own3.out Hl.out.1 (by have := HB.out; omega) Hnew.out) rfl
      exact ⟨A, cc, by rw [e1]; rfl, e2, e3, e4, Hg3.out⟩

set_option maxHeartbeats 16000000 in
set_option maxRecDepth 100000 in
theorem insert_nil (s : ByteArray) (w : World) :
    Calls Try.prog 65 #[.slice none 0 0, .string s] w (Texts (insT (tx s) []) w) := by
  obtain ⟨i0, hi0, hz0, hz1, hz2⟩ := info_parts6 str_inf
  have Hi0 := Lib.hid hi0
  have Hz0 := Lib.hid hz0
  have Hz1 := Lib.hid hz1
  have Hz2 := Lib.hid hz2
  clear hi0 hz0 hz1 hz2
  obtain ⟨B, hB⟩ : ∃ B, w.heap.size = B := ⟨_, rfl⟩
  have HBw := Lib.hid hB
  have Hown0 : Hid ((w.alloc (.cells #[] 9)).ownsRow B 9 1 (.slice (some ⟨B, 0, none⟩) 0 0) 0 (sv [])) := by show World.ownsRow _ _ _ _ _ _ _; rw [← hB]; exact own_empty w _
  have Hga : Hid (w.grownBy (w.alloc (.cells #[] 9)) none) := gb_alloc (gb_refl _ _) _
  have hS1 : ∀ W, (Instr.slice 58 (.slice none 0 0) none (some (.int .i64 0)) none).run Try.prog W = .ok (.slice none 0 0) W := fun W => by
    simp [Instr.slice, run_underlying Try.underlying58, Instr.sliceBounds, run_sliceBound]
  have hS2 : ∀ W, (Instr.slice 58 (.slice none 0 0) (some (.int .i64 0)) none none).run Try.prog W = .ok (.slice none 0 0) W := fun W => by
    simp [Instr.slice, run_underlying Try.underlying58, Instr.sliceBounds, run_sliceBound]
  go_enter Try.func65, Try.ntmps65
  go_wp2_with fail
  go_loopw [5] (fun i wr => i = .int .i64 0 ∧ w = wr) (fun _ _ => 0)
  case atStart => exact ⟨rfl, rfl⟩
  case round =>
    obtain ⟨rfl, rfl⟩ := hrel
    go_upto_region 6 with fail
    go_upto_region 7 with (at_builtin; go_must (refine wpList_append_own_none rfl (.tmp 34) (.tmp 37) 58 rfl B 9 i0 1 Try.underlying58 Hi0.out _ 0 _ rfl Hown0.out rfl ?_))
    obtain ⟨W1, hW1⟩ : ∃ W1, w.alloc (.cells #[] 9) = W1 := ⟨_, rfl⟩
    have Hg1 : Hid (w.grownBy W1 none) := by rw [← hW1]; exact Hga.out
    have Own1 : Hid (W1.ownsRow B 9 1 (.slice (some ⟨B, 0, none⟩) 0 0) 0 (sv [])) := by rw [← hW1]; exact Hown0.out
    rw [hW1]
    clear hW1 hB Hown0 Hga
    obtain ⟨B1, hB1⟩ : ∃ B1, W1.heap.size = B1 := ⟨_, rfl⟩
    have Hown1 : Hid ((W1.alloc (.cells #[.string s] 9)).ownsRow B 9 1 (.slice (some ⟨B, 0, none⟩) 0 0) 0 (sv [])) := Own1.out.alloc _
    have Hgb : Hid (w.grownBy (W1.alloc (.cells #[.string s] 9)) none) := gb_alloc Hg1.out _
    have Hb2 : Hid (B ≤ (W1.alloc (.cells #[.string s] 9)).heap.size) := by show _ ≤ _; have h1 := Hgb.out.size; have := HBw.out; omega
    have Hnw : Hid (∀ j u, (sv [tx s])[j]? = some u → (W1.alloc (.cells #[.string s] 9)).cell? ((⟨B1, 0, none⟩ : Addr).add j) = some u) := by
      rw [← hB1]
      exact World.news_of_block (cs := #[.string s]) (t := 9) (fr := (0, 0)) (heap_alloc_new W1 (.cells #[.string s] 9))
    go_upto_region 8 with (at_builtin; go_must (refine wpList_append_own _ rfl (.tmp 39) (.tmp 41) 58 rfl B 9 i0 (.string ⟨#[]⟩) 1 16 Try.underlying58 Hi0.out Hz0.out Hz1.out Hz2.out rfl (by decide) _ 0 _ rfl Hown1.out ⟨B1, 0, none⟩ 1 1 (sv [tx s]) rfl rfl Hnw.out (sv_one _) (by decide) (by decide) Hb2.out ?_); intro v2 W2 own2 grow2 _; have Own2 := Lib.hid own2; have Hg2 : Hid (w.grownBy W2 none) := gb_step Hgb.out grow2 (fun i e => .inr (by rw [HBw.out]; exact ot_far Hown1.out i e)); clear own2 grow2; obtain ⟨A2, c2, hv2⟩ := ot_slice Own2.out; subst hv2)
    go_wp2_with (at_builtin; go_must (refine wpList_append_own_none rfl (.tmp 43) (.tmp 46) 58 rfl B 9 i0 1 Try.underlying58 Hi0.out _ 1 _ rfl Own2.out rfl ?_))
    go_ret
    have h := Own2.out
    rw [Nat.zero_add] at h
    obtain ⟨A, cc, e1, e2, e3, e4⟩ := own_tl (l := [tx s]) h rfl
    exact ⟨A, cc, by rw [e1]; rfl, e2, e3, e4, Hg2.out⟩

theorem insert_any (A : Option Addr) (n c : Nat) (l : List Tx) (s : ByteArray) (w : World) (hl : TL w A n l) (hc : n ≤ c) (hA : A = none → c = 0) (hn : n ≤ 100000) (ho : n = 0 → A = none) :
    Calls Try.prog 65 #[.slice A n c, .string s] w (Texts (insT (tx s) l) w) := by
  by_cases h0 : n = 0
  · subst h0
    obtain rfl := ho rfl
    obtain rfl := hA rfl
    obtain rfl : l = [] := List.length_eq_zero_iff.1 hl.1
    exact insert_nil s w
  · obtain ⟨g, o, rfl, _⟩ := hl.2 (by omega)
    exact insert_some g o n c l s w hl hc hn
end Go.Proofs.Ytblndpfgfakdeaa.Dt

namespace Go.Proofs.Ytblndpfgfakdeaa.Dt
open Go Go.RowKit Go.Proofs.Ytblndpfgfakdeaa.Mm Go.Proofs.Ytblndpfgfakdeaa.Td Go.Sort

/-- What the library's Sort and Compact leave of a row of texts. -/
theorem rise_own {w : World} {B n cap g nn q : Nat} {ss : List Tx} {os : Array Obj} (h : w.ownsRow B 9 1 (.slice (some ⟨g, 0, none⟩) n cap) n (sv ss)) :
    (putRow encStr (Sort.ahead (grow (putRow encStr (Sort.ahead w nn) g 0 (ss.mergeSort fun x y => decide (x ≤ y)).toArray) os) q) g 0 (Lib.compact (ss.mergeSort fun x y => decide (x ≤ y)) ++ List.replicate (n - (Lib.compact (ss.mergeSort fun x y => decide (x ≤ y))).length) []).toArray).ownsRow B 9 1 (.slice (some ⟨g, 0, none⟩) (setT ss).length cap) (setT ss).length (sv (setT ss)) ∧
    w.grownBy (putRow encStr (Sort.ahead (grow (putRow encStr (Sort.ahead w nn) g 0 (ss.mergeSort fun x y => decide (x ≤ y)).toArray) os) q) g 0 (Lib.compact (ss.mergeSort fun x y => decide (x ≤ y)) ++ List.replicate (n - (Lib.compact (ss.mergeSort fun x y => decide (x ≤ y))).length) []).toArray) (some g) := by
  have hn : ss.length = n := by have := h.1; rw [sv_len] at this; omega
  rw [compact_sort]
  have hle := setT_len ss
  have hl2 : (ss.mergeSort fun x y => decide (x ≤ y)).length = ss.length := List.length_mergeSort ss
  rcases h.2 with ⟨h0, _⟩ | ⟨g', cap', cur, hv, hbase, hb, h1, h2, h3, h4⟩
  · cases h0
  cases hv
  subst hn
  have hs := ownsRow_sorted (n := nn) (os := os) (ts := ss.mergeSort fun x y => decide (x ≤ y)) hl2 hbase hb h1 h2 h3
  have hc := Lib.ownsRow_putRow (q := q) (k := (setT ss).length) (ys := setT ss ++ List.replicate (ss.length - (setT ss).length) []) hs (by simp; omega) (by omega)
  rw [List.take_left] at hc
  have g1 := grownBy_sorted (w := w) (g := g) (n := nn) (os := os) (ss.mergeSort fun x y => decide (x ≤ y)).toArray
  have g2 := grownBy_sorted (w := grow (putRow encStr (Sort.ahead w nn) g 0 (ss.mergeSort fun x y => decide (x ≤ y)).toArray) os) (g := g) (n := q) (os := #[]) (setT ss ++ List.replicate (ss.length - (setT ss).length) []).toArray
  rw [grow_empty] at g2
  exact ⟨hc, gb_then g1 g2⟩

set_option maxHeartbeats 8000000 in
set_option maxRecDepth 100000 in
theorem rising_any (B n : Nat) (v : Value) (ss : List Tx) (w : World) (h : w.ownsRow B 9 1 v n (sv ss)) (hn : n ≤ 100000) :
    Calls Try.prog 64 #[v] w fun e w' => ∃ A c, e = .returned (.slice A (setT ss).length c) ∧ TL w' A (setT ss).length (setT ss) ∧ (setT ss).length ≤ c ∧ (A = none → c = 0) ∧ w.grownBy w' v.ownBlock := by
  have hl : ss.length = n := by have := h.1; rw [sv_len] at this; omega
  rcases h.2 with ⟨rfl, h0⟩ | ⟨g, cap, cur, rfl, hbase, hb, h1, h2, h3, h4⟩
  · subst h0
    have hss : ss = [] := List.length_eq_zero_iff.1 hl
    subst hss
    go_enter Try.func64, Try.ntmps64
    go_wp2_with (first
      | (go_at_call 78; refine (Any.slices_Sort_string_none Try.sortStr none 0 _).mono ?_; rintro e w1 ⟨rfl, rfl⟩)
      | (go_at_call 79; refine (Any.slices_Compact_string_empty Try.compactStr none 0 _).mono ?_; rintro e w2 ⟨rfl, rfl⟩))
    go_ret
    exact ⟨none, 0, rfl, TL.none _ _, Nat.le_refl _, fun _ => rfl, gb_refl _ _⟩
  · have HO := Lib.hid h
    have hH : Holds encStr w g 0 ss.toArray := holds_of_block hb (by rw [hl]; simpa [sv] using h4)
    have hgl : g < w.heap.size := (Array.getElem?_eq_some_iff.1 hb).1
    have hsort := Any.slices_Sort_string Try.sortStr g 0 cap ss w hH hgl (by omega)
    rw [hl] at hsort
    have HS := Lib.hid hsort
    have HH := Lib.hid hH
    have Hgl := Lib.hid hgl
    have Hcap := Lib.hid h1
    have Hl := Lib.hid hl
    have Hn := Lib.hid hn
    clear h hb h1 h2 h3 h4 hH hgl hsort hl hn hbase
    go_enter Try.func64, Try.ntmps64
    go_wp2_with (first
      | (go_at_call 78; refine HS.out.mono ?_; rintro e w2 ⟨rfl, nn, os, hw2⟩
         have hl2 : (ss.mergeSort fun x y => decide (x ≤ y)).length = n := by rw [List.length_mergeSort]; exact Hl.out
         have hH2 : Holds encStr w2 g 0 (ss.mergeSort fun x y => decide (x ≤ y)).toArray := by
           rw [hw2]
           exact holds_grow encStr _ os g 0 _ (by simpa [putRow, mapBlock, Sort.ahead] using Hgl.out) (holds_putRow encStr _ g 0 _ _ (holds_ahead encStr w nn g 0 _ HH.out) (by simp))
         have hcomp := Any.slices_Compact_string Try.compactStr g 0 cap (ss.mergeSort fun x y => decide (x ≤ y)) w2 hH2 (by have := Hn.out; omega) (by have := Hcap.out; omega)
         rw [hl2] at hcomp
         have HC := Lib.hid hcomp
         have HW := Lib.hid hw2
         clear hl2 hH2 hcomp hw2)
      | (go_at_call 79; refine HC.out.mono ?_; rintro e w3 ⟨rfl, q, hw3⟩))
    go_ret
    have hr := rise_own (nn := nn) (q := q) (os := os) HO.out
    rw [← HW.out, compact_sort] at hr
    rw [compact_sort]
    obtain ⟨A, c, e1, e2, e3, e4⟩ := own_tl hr.1 rfl
    injection e1 with e5 e6 e7
    subst e5; subst e7
    exact ⟨_, cap, rfl, e2, e3, e4, hr.2⟩

set_option maxHeartbeats 8000000 in
set_option maxRecDepth 100000 in
theorem sameTexts_any (A B : Option Addr) (n c m d : Nat) (a b : List Tx) (w : World) (ha : TL w A n a) (hb : TL w B m b) (hn : n ≤ 1099511627776) (hm : m ≤ 1099511627776) :
    Calls Try.prog 39 #[.slice A n c, .slice B m d] w (BoolIs (a = b) w) := by
  have Ha := Lib.hid ha
  have Hb := Lib.hid hb
  clear ha hb
  by_cases hnm : n = m
  · subst hnm
    have e0 : ((n : Int) != (n : Int)) = false := by simp
    go_enter Try.func39, Try.ntmps39
    go_wp2_with fail
    go_loopw [5] (fun i wr => ∃ k : Nat, k ≤ n ∧ i = .int .i64 k ∧ Hid (a.take k = b.take k) ∧ w.grownBy wr none) (fun i _ => n - (intOf i).toNat)
    case atStart => exact ⟨0, Nat.zero_le _, rfl, by show _ = _; rfl, gb_refl _ _⟩
    case round =>
      obtain ⟨k, hk, rfl, HX, hg⟩ := hrel
      by_cases hlt : k < n
      · have d1 : decide (k < n) = true := decide_eq_true hlt
        have d2 : decide ((k : Int) < (n : Int)) = true := decide_eq_true (by omega)
        have bk : (k : Int) < (n : Int) := by omega
        obtain ⟨g, o, rfl, hgl, hcc⟩ := (Ha.out.keep hg).2 (by omega)
        obtain ⟨g', o', rfl, hgl', hcc'⟩ := (Hb.out.keep hg).2 (by omega)
        obtain ⟨x, hx⟩ : ∃ x, a[k]? = some x := ⟨_, List.getElem?_eq_getElem (by rw [Ha.out.1]; exact hlt)⟩
        obtain ⟨y, hy⟩ : ∃ y, b[k]? = some y := ⟨_, List.getElem?_eq_getElem (by rw [Hb.out.1]; exact hlt)⟩
        have h0 := hcc k x hx
        have i0 := hcc' k y hy
        obtain ⟨bx, ex, tX⟩ := tx_val x
        obtain ⟨b_y, ey, tY⟩ := tx_val y
        rw [ex] at h0
        rw [ey] at i0
        have Hx := Lib.hid hx
        have Hy := Lib.hid hy
        have hT : a.take (k + 1) = a.take k ++ [x] := by rw [List.take_add_one, hx]; rfl
        have hT2 : b.take (k + 1) = b.take k ++ [y] := by rw [List.take_add_one, hy]; rfl
        clear hcc hcc' hx hy ex ey
        by_cases hxy : x = y
        · have t1 := str_eq (tx_inj (tX.trans (hxy.trans tY.symm)))
          have Hnext : Hid (a.take (k + 1) = b.take (k + 1)) := by show _ = _; rw [hT, hT2, HX.out, hxy]
          clear hT hT2 hxy tX tY
          go_wp2_with fail
          go_quiet (fail)
          go_wp2_with fail
          go_roundw
          case rel => exact ⟨k + 1, by omega, by go_num, Hnext, gb_drewN hg _⟩
          case measure => simp [intOf]; omega
        · have t1 := str_ne (fun h => hxy (tX.symm.trans ((congrArg tx h).trans tY)) : ¬ bx = b_y)
          have Hno : Hid (a ≠ b) := fun h => hxy (by
              have h1 := Hx.out
              rw [h, Hy.out] at h1
              exact (Option.some.inj h1).symm)
          clear hT hT2 hxy tX tY
          go_wp2_with fail
          go_quiet (fail)
          go_wp2_with fail
          go_ret
          exact ⟨⟨false, rfl, by simp [Hno.out]⟩, gb_drewN hg _⟩
      · have hkn : k = n := by omega
        subst hkn
        have d1 : decide (k < k) = false := by simp
        have d2 : decide ((k : Int) < (k : Int)) = false := by simp
        have He : Hid (a = b) := by
          show a = b
          have h := HX.out
          rwa [List.take_of_length_le (by rw [Ha.out.1]; exact Nat.le_refl _), List.take_of_length_le (by rw [Hb.out.1]; exact Nat.le_refl _)] at h
        clear hlt
        go_wp2_with fail
        go_ret
        exact ⟨⟨true, rfl, by simp [He.out]⟩, hg⟩
  · have e0 : ((n : Int) != (m : Int)) = true := by rw [bne_iff_ne]; omega
    have Hno : Hid (a ≠ b) := fun h => hnm (by rw [← Ha.out.1, ← Hb.out.1, h])
    clear hnm
    go_enter Try.func39, Try.ntmps39
    go_wp2_with fail
    go_ret
    exact ⟨⟨false, rfl, by simp [Hno.out]⟩, gb_refl _ _⟩
end Go.Proofs.Ytblndpfgfakdeaa.Dt

namespace Go.Proofs.Ytblndpfgfakdeaa.Dt
open Go Go.RowKit Go.Proofs.Ytblndpfgfakdeaa.Mm Go.Proofs.Ytblndpfgfakdeaa.Td

theorem map_take_more {α : Type} {l : List Fc} {k : Nat} {x : Fc} (h : l[k]? = some x) (f : Fc → α) : (l.take k).map f ++ [f x] = (l.take (k + 1)).map f := by
  rw [List.take_add_one, h, List.map_append]; rfl
set_option maxHeartbeats 16000000 in
set_option maxRecDepth 100000 in
theorem pKeys_any (A B : Option Addr) (p c n d : Nat) (s : St) (w : World) (hs : SL w A p B n s) (hn : n ≤ 100000) :
    Calls Try.prog 40 #[.agg #[.slice A p c, .slice B n d]] w (Texts (keysT s.facts) w) := by
  obtain ⟨rs, l⟩ := s
  obtain ⟨W0, hW0⟩ : ∃ W0, w.alloc (.cells #[.slice A p c, .slice B n d] 26) = W0 := ⟨_, rfl⟩
  have G0 : w.grownBy W0 none := by rw [← hW0]; exact gb_alloc (gb_refl _ _) _
  have hr0 : Row W0 w.heap.size 26 #[.slice A p c, .slice B n d] := by rw [← hW0]; exact Row.new _ _ _
  have HC : Hid (∀ W, W0.grownBy W none → W.cell? ⟨w.heap.size, 0, none⟩ = some (.slice A p c) ∧ W.cell? ⟨w.heap.size, 1, none⟩ = some (.slice B n d)) :=
    fun W hW => ⟨(hr0.kept hW (by simp)).at_ (i := 0) rfl, (hr0.kept hW (by simp)).at_ (i := 1) rfl⟩
  have Hs : Hid (SL W0 A p B n ⟨rs, l⟩) := hs.keep G0
  have HG := Lib.hid G0
  have Hn := Lib.hid hn
  obtain ⟨z0, z1⟩ := HC.out W0 (gb_refl _ _)
  clear hr0 hs G0
  obtain ⟨i0, hi0, hz0, hz1, hz2⟩ := info_parts6 str_inf
  have Hi0 := Lib.hid hi0
  have Hz0 := Lib.hid hz0
  have Hz1 := Lib.hid hz1
  have Hz2 := Lib.hid hz2
  clear hi0 hz0 hz1 hz2
  obtain ⟨B0, hB0⟩ : ∃ B0, W0.heap.size = B0 := ⟨_, rfl⟩
  have HB0 := Lib.hid hB0
  have Hnil : Hid (W0.ownsRow B0 9 1 (.slice none 0 0) 0 (sv [])) := World.ownsRow_nil _ _ _ _
  clear hB0
  go_enter Try.func40, Try.ntmps40
  go_upto_region 1 with fail
  clear hW0
  go_wp2_with fail
  go_loopw [9, 3] (fun i v wr => ∃ (k : Nat) (L : List Tx), k ≤ n ∧ i = .int .i64 k ∧ Hid (L = (l.take k).map fun f => tx f.key) ∧ wr.ownsRow B0 9 1 v L.length (sv L) ∧ W0.grownBy wr none) (fun i _ _ => n - (intOf i).toNat)
  case atStart => exact ⟨0, [], Nat.zero_le _, rfl, by show _ = _; simp, Hnil.out, gb_refl _ _⟩
  case round =>
    obtain ⟨k, L, hk, rfl, HL0, hown, hg⟩ := hrel
    obtain ⟨N, hN⟩ : ∃ N, L.length = N := ⟨_, rfl⟩
    obtain ⟨A2, c2, hv, _, hle, hnil⟩ := own_tl hown rfl
    subst hv
    have hNn : N ≤ n := by rw [← hN, HL0.out, List.length_map, List.length_take]; exact Nat.le_trans (Nat.min_le_left _ _) hk
    rw [hN] at hown hle ⊢
    have HN := Lib.hid hN
    have HNn : Hid (N ≤ 100000) := Nat.le_trans hNn Hn.out
    have Hown := Lib.hid hown
    by_cases hlt : k < n
    · have d1 : decide (k < n) = true := decide_eq_true hlt
      have d2 : decide ((k : Int) < (n : Int)) = true := decide_eq_true (by omega)
      have bk : (k : Int) < (n : Int) := by omega
      have Hlt := Lib.hid hlt
      obtain ⟨g, o, rfl, hgl, hcc⟩ := (Hs.out.keep hg).2.2 (by omega)
      obtain ⟨x, hx⟩ : ∃ x, l[k]? = some x := ⟨_, List.getElem?_eq_getElem (by have := Hs.out.2.1; show k < l.length; rw [show l.length = n from this]; exact hlt)⟩
      obtain ⟨h0, h1, h2, h3, h4, h5⟩ := hcc k x hx
      have HL : Hid (L ++ [tx x.key] = (l.take (k + 1)).map fun f => tx f.key) := by show _ = _; rw [HL0.out]; exact map_take_more hx _
      have Hb1 : Hid (N + 1 ≤ maxLen) := by show _ ≤ _; have := HNn.out; simp only [maxLen]; omega
      have Hb2 : Hid ((N + 1) * 16 ≤ 140737488355328) := by show _ ≤ _; have := HNn.out; omega
      have Hga := Lib.hid (gb_alloc (gb_alloc hg (.cells #[.int .i64 x.d, .int .i64 x.n, .string x.key, .int .i64 x.kind, .string x.item, .int .i64 x.v] 37)) (.cells #[.string x.key] 9))
      have Hb3 : Hid (B0 ≤ ((wr.alloc (.cells #[.int .i64 x.d, .int .i64 x.n, .string x.key, .int .i64 x.kind, .string x.item, .int .i64 x.v] 37)).alloc (.cells #[.string x.key] 9)).heap.size) := by show _ ≤ _; have h1 := Hga.out.size; have := HB0.out; omega
      have Hown2 : Hid (((wr.alloc (.cells #[.int .i64 x.d, .int .i64 x.n, .string x.key, .int .i64 x.kind, .string x.item, .int .i64 x.v] 37)).alloc (.cells #[.string x.key] 9)).ownsRow B0 9 1 (.slice A2 N c2) N (sv L)) := (hown.alloc _).alloc _
      clear hcc hx hgl hg hown hle hN hNn hnil
      go_wp2_with (at_builtin; go_must (refine wpList_append_own _ rfl (.tmp 13) (.tmp 16) 58 rfl B0 9 i0 (.string ⟨#[]⟩) 1 16 Try.underlying58 Hi0.out Hz0.out Hz1.out Hz2.out rfl (by decide) _ N _ rfl Hown2.out ⟨wr.heap.size + 1, 0, none⟩ 1 1 (sv [tx x.key]) rfl rfl (by have h := World.news_of_block (cs := #[.string x.key]) (t := 9) (fr := (0, 0)) (heap_alloc_new (wr.alloc (.cells #[.int .i64 x.d, .int .i64 x.n, .string x.key, .int .i64 x.kind, .string x.item, .int .i64 x.v] 37)) (.cells #[.string x.key] 9)); rwa [World.size_alloc] at h) (sv_one _) Hb1.out Hb2.out Hb3.out ?_); intro v1 w1 own1 grow1 _; have Own1 := Lib.hid own1; have Grow1 := Lib.hid grow1; clear own1 grow1; obtain ⟨A1, c1, hv1⟩ := ot_slice Own1.out; subst hv1)
      go_roundw
      case rel =>
        refine ⟨k + 1, L ++ [tx x.key], by have := Hlt.out; omega, by go_num, ?_, ?_, ?_⟩
        · exact HL.out
        · rw [sv_append, List.length_append, HN.out]
          exact Own1.out
        · exact gb_step Hga.out Grow1.out (fun i e => .inr (by rw [HB0.out]; exact ot_far Hown2.out i e))
      case measure => simp [intOf]; have := Hlt.out; omega
    · have hkn : k = n := by omega
      subst hkn
      have d1 : decide (k < k) = false := by simp
      have d2 : decide ((k : Int) < (k : Int)) = false := by simp
      have He : Hid (keysT l = setT L) := by
        show _ = _
        rw [HL0.out, List.take_of_length_le (by have := Hs.out.2.1; rw [show l.length = k from this]; exact Nat.le_refl _)]; rfl
      have Hg := Lib.hid hg
      clear hown hle hg hN hNn hlt hnil
      go_wp2_with (go_at_call 64; refine (rising_any B0 N _ L wr Hown.out HNn.out).mono ?_; rintro e w2 ⟨A3, c3, rfl, ht, hc3, hn3, g2⟩)
      go_ret
      show Texts (keysT l) w _ _
      rw [He.out]
      exact ⟨A3, c3, rfl, ht, hc3, hn3, gb_none HG.out (gb_step Hg.out g2 (fun i e => .inr (by rw [HB0.out]; exact ot_far Hown.out i e)))⟩

/-- What told tells. -/
def Told (l : List Tx) (n : Int) (w : World) (e : Ending) (w' : World) : Prop := ∃ A c, e = .returned (.tuple #[.slice A l.length c, .int .i64 n]) ∧ TL w' A l.length l ∧ l.length ≤ c ∧ (A = none → c = 0) ∧ w.grownBy w' none
set_option maxHeartbeats 16000000 in
set_option maxRecDepth 100000 in
theorem told_items1 (A B : Option Addr) (p c n d : Nat) (s : St) (key : ByteArray) (w : World) (hs : SL w A p B n s) (hn : n ≤ 100000) :
    Calls Try.prog 66 #[.agg #[.slice A p c, .slice B n d], .string key, .int .i64 1] w (Told (itemsT s.facts key 1) 0 w) := by
  obtain ⟨rs, l⟩ := s
  obtain ⟨W0, hW0⟩ : ∃ W0, w.alloc (.cells #[.slice A p c, .slice B n d] 26) = W0 := ⟨_, rfl⟩
  have G0 : w.grownBy W0 none := by rw [← hW0]; exact gb_alloc (gb_refl _ _) _
  have hr0 : Row W0 w.heap.size 26 #[.slice A p c, .slice B n d] := by rw [← hW0]; exact Row.new _ _ _
  have HC : Hid (∀ W, W0.grownBy W none → W.cell? ⟨w.heap.size, 0, none⟩ = some (.slice A p c) ∧ W.cell? ⟨w.heap.size, 1, none⟩ = some (.slice B n d)) :=
    fun W hW => ⟨(hr0.kept hW (by simp)).at_ (i := 0) rfl, (hr0.kept hW (by simp)).at_ (i := 1) rfl⟩
  have Hs : Hid (SL W0 A p B n ⟨rs, l⟩) := hs.keep G0
  have HG := Lib.hid G0
  have Hn := Lib.hid hn
  obtain ⟨z0, z1⟩ := HC.out W0 (gb_refl _ _)
  clear hr0 hs G0
  obtain ⟨i0, hi0, hz0, hz1, hz2⟩ := info_parts6 str_inf
  have Hi0 := Lib.hid hi0
  have Hz0 := Lib.hid hz0
  have Hz1 := Lib.hid hz1
  have Hz2 := Lib.hid hz2
  clear hi0 hz0 hz1 hz2
  obtain ⟨F, hF⟩ : ∃ F, findL l key 1 = F := ⟨_, rfl⟩
  obtain ⟨n1, hn1⟩ : ∃ n1, F.length = n1 := ⟨_, rfl⟩
  have Hk : Hid (∀ f ∈ F, f.kind = 1) := fun f hf => by
    rw [← hF] at hf
    exact (find_mem.1 hf).2.2.resolve_left (by decide)
  have hn1b : n1 ≤ 100000 := by
    rw [← hn1, ← hF]
    refine Nat.le_trans (find_len _ _ _) ?_
    have := Hs.out.2.1
    rw [show l.length = n from this]; exact Hn.out
  have Hn1 := Lib.hid hn1b
  have HF := Lib.hid hF
  have Hn1F := Lib.hid hn1
  clear hF hn1
  go_enter Try.func66, Try.ntmps66
  go_upto_region 1 with fail
  clear hW0
  go_upto_region 2 with (go_at_call 18; refine (pFind_any A B p c n d ⟨rs, l⟩ key 1 W0 Hs.out Hn.out).mono ?_; rintro e w1 ⟨A1, c1, rfl, hfl, hle1, g1⟩; rw [show findL (St.mk rs l).facts key 1 = F from HF.out, Hn1F.out] at hfl hle1; rw [show findL (St.mk rs l).facts key 1 = F from HF.out, Hn1F.out]; have Hfl := Lib.hid hfl; have Hg1 := Lib.hid (gb_none HG.out g1); obtain ⟨B0, hB0⟩ : ∃ B0, w1.heap.size = B0 := ⟨_, rfl⟩; have HB0 := Lib.hid hB0; have Hnil : Hid (w1.ownsRow B0 9 1 (.slice none 0 0) 0 (sv [])) := World.ownsRow_nil _ _ _ _; clear hfl hle1 g1 hB0)
  clear z0 z1
  go_loopw [15, 6, 7] (fun i v u wr => ∃ (k : Nat) (L : List Tx), k ≤ n1 ∧ i = .int .i64 k ∧ Hid (L = (F.take k).map fun f => tx f.item) ∧ wr.ownsRow B0 9 1 v L.length (sv L) ∧ u = .int .i64 0 ∧ w1.grownBy wr none) (fun i _ _ _ => n1 - (intOf i).toNat)
  case atStart => exact ⟨0, [], Nat.zero_le _, rfl, by show _ = _; simp, Hnil.out, rfl, gb_refl _ _⟩
  case round =>
    obtain ⟨k, L, hk, rfl, HL0, hown, rfl, hg⟩ := hrel
    obtain ⟨N, hN⟩ : ∃ N, L.length = N := ⟨_, rfl⟩
    obtain ⟨A2, c2, hv, _, hle, hnil⟩ := own_tl hown rfl
    subst hv
    have hNn : N ≤ n1 := by rw [← hN, HL0.out, List.length_map, List.length_take]; exact Nat.le_trans (Nat.min_le_left _ _) hk
    rw [hN] at hown hle ⊢
    have HN := Lib.hid hN
    have HNn : Hid (N ≤ 100000) := Nat.le_trans hNn Hn1.out
    have Hown := Lib.hid hown
    by_cases hlt : k < n1
    · have d1 : decide (k < n1) = true := decide_eq_true hlt
      have d2 : decide ((k : Int) < (n1 : Int)) = true := decide_eq_true (by omega)
      have bk : (k : Int) < (n1 : Int) := by omega
      have Hlt := Lib.hid hlt
      obtain ⟨g, o, rfl, hgl, hcc⟩ := (Hfl.out.keep hg).2 (by omega)
      obtain ⟨x, hx⟩ : ∃ x, F[k]? = some x := ⟨_, List.getElem?_eq_getElem (by rw [Hn1F.out]; exact hlt)⟩
      obtain ⟨h0, h1, h2, h3, h4, h5⟩ := hcc k x hx
      have hkx := Hk.out x (List.mem_of_getElem? hx)
      rw [hkx] at h3
      have HL : Hid (L ++ [tx x.item] = (F.take (k + 1)).map fun f => tx f.item) := by show _ = _; rw [HL0.out]; exact map_take_more hx _
      clear hkx
      have Hb1 : Hid (N + 1 ≤ maxLen) := by show _ ≤ _; have := HNn.out; simp only [maxLen]; omega
      have Hb2 : Hid ((N + 1) * 16 ≤ 140737488355328) := by show _ ≤ _; have := HNn.out; omega
      have Hga := Lib.hid (gb_alloc (gb_alloc hg (.cells #[.int .i64 x.d, .int .i64 x.n, .string x.key, .int .i64 1, .string x.item, .int .i64 x.v] 37)) (.cells #[.string x.item] 9))
      have Hb3 : Hid (B0 ≤ ((wr.alloc (.cells #[.int .i64 x.d, .int .i64 x.n, .string x.key, .int .i64 1, .string x.item, .int .i64 x.v] 37)).alloc (.cells #[.string x.item] 9)).heap.size) := by show _ ≤ _; have h1 := Hga.out.size; have := HB0.out; omega
      have Hown2 : Hid (((wr.alloc (.cells #[.int .i64 x.d, .int .i64 x.n, .string x.key, .int .i64 1, .string x.item, .int .i64 x.v] 37)).alloc (.cells #[.string x.item] 9)).ownsRow B0 9 1 (.slice A2 N c2) N (sv L)) := (hown.alloc _).alloc _
      clear hcc hx hgl hg hown hle hN hNn hnil
      go_wp2_with (at_builtin; go_must (refine wpList_append_own _ rfl (.tmp 27) (.tmp 30) 58 rfl B0 9 i0 (.string ⟨#[]⟩) 1 16 Try.underlying58 Hi0.out Hz0.out Hz1.out Hz2.out rfl (by decide) _ N _ rfl Hown2.out ⟨wr.heap.size + 1, 0, none⟩ 1 1 (sv [tx x.item]) rfl rfl (by have h := World.news_of_block (cs := #[.string x.item]) (t := 9) (fr := (0, 0)) (heap_alloc_new (wr.alloc (.cells #[.int .i64 x.d, .int .i64 x.n, .string x.key, .int .i64 1, .string x.item, .int .i64 x.v] 37)) (.cells #[.string x.item] 9)); rwa [World.size_alloc] at h) (sv_one _) Hb1.out Hb2.out Hb3.out ?_); intro v1 w1 own1 grow1 _; have Own1 := Lib.hid own1; have Grow1 := Lib.hid grow1; clear own1 grow1; obtain ⟨A1, c1, hv1⟩ := ot_slice Own1.out; subst hv1)
      go_roundw
      case rel =>
        refine ⟨k + 1, L ++ [tx x.item], by have := Hlt.out; omega, by go_num, ?_, ?_, rfl, ?_⟩
        · exact HL.out
        · rw [sv_append, List.length_append, HN.out]
          exact Own1.out
        · exact gb_step Hga.out Grow1.out (fun i e => .inr (by rw [HB0.out]; exact ot_far Hown2.out i e))
      case measure => simp [intOf]; have := Hlt.out; omega
    · have hkn : k = n1 := by omega
      subst hkn
      have d1 : decide (k < k) = false := by simp
      have d2 : decide ((k : Int) < (k : Int)) = false := by simp
      have He : Hid (itemsT l key 1 = setT L) := by
        show _ = _
        unfold itemsT
        rw [HF.out, HL0.out, List.take_of_length_le (by rw [Hn1F.out]; exact Nat.le_refl _)]
      have Hg := Lib.hid hg
      clear hown hle hg hN hNn hlt hnil
      go_wp2_with (go_at_call 64; refine (rising_any B0 N _ L wr Hown.out HNn.out).mono ?_; rintro e w2 ⟨A3, c3, rfl, ht, hc3, hn3, g2⟩)
      go_ret2
      show Told (itemsT l key 1) 0 w _ _
      rw [He.out]
      exact ⟨A3, c3, rfl, ht, hc3, hn3, gb_none Hg1.out (gb_step Hg.out g2 (fun i e => .inr (by rw [HB0.out]; exact ot_far Hown.out i e)))⟩

set_option maxHeartbeats 16000000 in
set_option maxRecDepth 100000 in
theorem told_items2 (A B : Option Addr) (p c n d : Nat) (s : St) (key : ByteArray) (w : World) (hs : SL w A p B n s) (hn : n ≤ 100000) :
    Calls Try.prog 66 #[.agg #[.slice A p c, .slice B n d], .string key, .int .i64 2] w (Told (itemsT s.facts key 2) 0 w) := by
  obtain ⟨rs, l⟩ := s
  obtain ⟨W0, hW0⟩ : ∃ W0, w.alloc (.cells #[.slice A p c, .slice B n d] 26) = W0 := ⟨_, rfl⟩
  have G0 : w.grownBy W0 none := by rw [← hW0]; exact gb_alloc (gb_refl _ _) _
  have hr0 : Row W0 w.heap.size 26 #[.slice A p c, .slice B n d] := by rw [← hW0]; exact Row.new _ _ _
  have HC : Hid (∀ W, W0.grownBy W none → W.cell? ⟨w.heap.size, 0, none⟩ = some (.slice A p c) ∧ W.cell? ⟨w.heap.size, 1, none⟩ = some (.slice B n d)) :=
    fun W hW => ⟨(hr0.kept hW (by simp)).at_ (i := 0) rfl, (hr0.kept hW (by simp)).at_ (i := 1) rfl⟩
  have Hs : Hid (SL W0 A p B n ⟨rs, l⟩) := hs.keep G0
  have HG := Lib.hid G0
  have Hn := Lib.hid hn
  obtain ⟨z0, z1⟩ := HC.out W0 (gb_refl _ _)
  clear hr0 hs G0
  obtain ⟨i0, hi0, hz0, hz1, hz2⟩ := info_parts6 str_inf
  have Hi0 := Lib.hid hi0
  have Hz0 := Lib.hid hz0
  have Hz1 := Lib.hid hz1
  have Hz2 := Lib.hid hz2
  clear hi0 hz0 hz1 hz2
  obtain ⟨F, hF⟩ : ∃ F, findL l key 2 = F := ⟨_, rfl⟩
  obtain ⟨n1, hn1⟩ : ∃ n1, F.length = n1 := ⟨_, rfl⟩
  have Hk : Hid (∀ f ∈ F, f.kind = 2) := fun f hf => by
    rw [← hF] at hf
    exact (find_mem.1 hf).2.2.resolve_left (by decide)
  have hn1b : n1 ≤ 100000 := by
    rw [← hn1, ← hF]
    refine Nat.le_trans (find_len _ _ _) ?_
    have := Hs.out.2.1
    rw [show l.length = n from this]; exact Hn.out
  have Hn1 := Lib.hid hn1b
  have HF := Lib.hid hF
  have Hn1F := Lib.hid hn1
  clear hF hn1
  go_enter Try.func66, Try.ntmps66
  go_upto_region 1 with fail
  clear hW0
  go_upto_region 2 with (go_at_call 18; refine (pFind_any A B p c n d ⟨rs, l⟩ key 2 W0 Hs.out Hn.out).mono ?_; rintro e w1 ⟨A1, c1, rfl, hfl, hle1, g1⟩; rw [show findL (St.mk rs l).facts key 2 = F from HF.out, Hn1F.out] at hfl hle1; rw [show findL (St.mk rs l).facts key 2 = F from HF.out, Hn1F.out]; have Hfl := Lib.hid hfl; have Hg1 := Lib.hid (gb_none HG.out g1); obtain ⟨B0, hB0⟩ : ∃ B0, w1.heap.size = B0 := ⟨_, rfl⟩; have HB0 := Lib.hid hB0; have Hnil : Hid (w1.ownsRow B0 9 1 (.slice none 0 0) 0 (sv [])) := World.ownsRow_nil _ _ _ _; clear hfl hle1 g1 hB0)
  clear z0 z1
  go_loopw [15, 6, 7] (fun i v u wr => ∃ (k : Nat) (L : List Tx), k ≤ n1 ∧ i = .int .i64 k ∧ Hid (L = (F.take k).map fun f => tx f.item) ∧ wr.ownsRow B0 9 1 v L.length (sv L) ∧ u = .int .i64 0 ∧ w1.grownBy wr none) (fun i _ _ _ => n1 - (intOf i).toNat)
  case atStart => exact ⟨0, [], Nat.zero_le _, rfl, by show _ = _; simp, Hnil.out, rfl, gb_refl _ _⟩
  case round =>
    obtain ⟨k, L, hk, rfl, HL0, hown, rfl, hg⟩ := hrel
    obtain ⟨N, hN⟩ : ∃ N, L.length = N := ⟨_, rfl⟩
    obtain ⟨A2, c2, hv, _, hle, hnil⟩ := own_tl hown rfl
    subst hv
    have hNn : N ≤ n1 := by rw [← hN, HL0.out, List.length_map, List.length_take]; exact Nat.le_trans (Nat.min_le_left _ _) hk
    rw [hN] at hown hle ⊢
    have HN := Lib.hid hN
    have HNn : Hid (N ≤ 100000) := Nat.le_trans hNn Hn1.out
    have Hown := Lib.hid hown
    by_cases hlt : k < n1
    · have d1 : decide (k < n1) = true := decide_eq_true hlt
      have d2 : decide ((k : Int) < (n1 : Int)) = true := decide_eq_true (by omega)
      have bk : (k : Int) < (n1 : Int) := by omega
      have Hlt := Lib.hid hlt
      obtain ⟨g, o, rfl, hgl, hcc⟩ := (Hfl.out.keep hg).2 (by omega)
      obtain ⟨x, hx⟩ : ∃ x, F[k]? = some x := ⟨_, List.getElem?_eq_getElem (by rw [Hn1F.out]; exact hlt)⟩
      obtain ⟨h0, h1, h2, h3, h4, h5⟩ := hcc k x hx
      have hkx := Hk.out x (List.mem_of_getElem? hx)
      rw [hkx] at h3
      have HL : Hid (L ++ [tx x.item] = (F.take (k + 1)).map fun f => tx f.item) := by show _ = _; rw [HL0.out]; exact map_take_more hx _
      clear hkx
      have Hb1 : Hid (N + 1 ≤ maxLen) := by show _ ≤ _; have := HNn.out; simp only [maxLen]; omega
      have Hb2 : Hid ((N + 1) * 16 ≤ 140737488355328) := by show _ ≤ _; have := HNn.out; omega
      have Hga := Lib.hid (gb_alloc (gb_alloc hg (.cells #[.int .i64 x.d, .int .i64 x.n, .string x.key, .int .i64 2, .string x.item, .int .i64 x.v] 37)) (.cells #[.string x.item] 9))
      have Hb3 : Hid (B0 ≤ ((wr.alloc (.cells #[.int .i64 x.d, .int .i64 x.n, .string x.key, .int .i64 2, .string x.item, .int .i64 x.v] 37)).alloc (.cells #[.string x.item] 9)).heap.size) := by show _ ≤ _; have h1 := Hga.out.size; have := HB0.out; omega
      have Hown2 : Hid (((wr.alloc (.cells #[.int .i64 x.d, .int .i64 x.n, .string x.key, .int .i64 2, .string x.item, .int .i64 x.v] 37)).alloc (.cells #[.string x.item] 9)).ownsRow B0 9 1 (.slice A2 N c2) N (sv L)) := (hown.alloc _).alloc _
      clear hcc hx hgl hg hown hle hN hNn hnil
      go_wp2_with (at_builtin; go_must (refine wpList_append_own _ rfl (.tmp 27) (.tmp 30) 58 rfl B0 9 i0 (.string ⟨#[]⟩) 1 16 Try.underlying58 Hi0.out Hz0.out Hz1.out Hz2.out rfl (by decide) _ N _ rfl Hown2.out ⟨wr.heap.size + 1, 0, none⟩ 1 1 (sv [tx x.item]) rfl rfl (by have h := World.news_of_block (cs := #[.string x.item]) (t := 9) (fr := (0, 0)) (heap_alloc_new (wr.alloc (.cells #[.int .i64 x.d, .int .i64 x.n, .string x.key, .int .i64 2, .string x.item, .int .i64 x.v] 37)) (.cells #[.string x.item] 9)); rwa [World.size_alloc] at h) (sv_one _) Hb1.out Hb2.out Hb3.out ?_); intro v1 w1 own1 grow1 _; have Own1 := Lib.hid own1; have Grow1 := Lib.hid grow1; clear own1 grow1; obtain ⟨A1, c1, hv1⟩ := ot_slice Own1.out; subst hv1)
      go_roundw
      case rel =>
        refine ⟨k + 1, L ++ [tx x.item], by have := Hlt.out; omega, by go_num, ?_, ?_, rfl, ?_⟩
        · exact HL.out
        · rw [sv_append, List.length_append, HN.out]
          exact Own1.out
        · exact gb_step Hga.out Grow1.out (fun i e => .inr (by rw [HB0.out]; exact ot_far Hown2.out i e))
      case measure => simp [intOf]; have := Hlt.out; omega
    · have hkn : k = n1 := by omega
      subst hkn
      have d1 : decide (k < k) = false := by simp
      have d2 : decide ((k : Int) < (k : Int)) = false := by simp
      have He : Hid (itemsT l key 2 = setT L) := by
        show _ = _
        unfold itemsT
        rw [HF.out, HL0.out, List.take_of_length_le (by rw [Hn1F.out]; exact Nat.le_refl _)]
      have Hg := Lib.hid hg
      clear hown hle hg hN hNn hlt hnil
      go_wp2_with (go_at_call 64; refine (rising_any B0 N _ L wr Hown.out HNn.out).mono ?_; rintro e w2 ⟨A3, c3, rfl, ht, hc3, hn3, g2⟩)
      go_ret2
      show Told (itemsT l key 2) 0 w _ _
      rw [He.out]
      exact ⟨A3, c3, rfl, ht, hc3, hn3, gb_none Hg1.out (gb_step Hg.out g2 (fun i e => .inr (by rw [HB0.out]; exact ot_far Hown.out i e)))⟩

set_option maxHeartbeats 16000000 in
set_option maxRecDepth 100000 in
theorem told_count (A B : Option Addr) (p c n d : Nat) (s : St) (key : ByteArray) (w : World) (hs : SL w A p B n s) (hn : n ≤ 100000) :
    Calls Try.prog 66 #[.agg #[.slice A p c, .slice B n d], .string key, .int .i64 3] w (Told [] (countT s.facts key) w) := by
  obtain ⟨rs, l⟩ := s
  obtain ⟨W0, hW0⟩ : ∃ W0, w.alloc (.cells #[.slice A p c, .slice B n d] 26) = W0 := ⟨_, rfl⟩
  have G0 : w.grownBy W0 none := by rw [← hW0]; exact gb_alloc (gb_refl _ _) _
  have hr0 : Row W0 w.heap.size 26 #[.slice A p c, .slice B n d] := by rw [← hW0]; exact Row.new _ _ _
  have HC : Hid (∀ W, W0.grownBy W none → W.cell? ⟨w.heap.size, 0, none⟩ = some (.slice A p c) ∧ W.cell? ⟨w.heap.size, 1, none⟩ = some (.slice B n d)) :=
    fun W hW => ⟨(hr0.kept hW (by simp)).at_ (i := 0) rfl, (hr0.kept hW (by simp)).at_ (i := 1) rfl⟩
  have Hs : Hid (SL W0 A p B n ⟨rs, l⟩) := hs.keep G0
  have HG := Lib.hid G0
  have Hn := Lib.hid hn
  obtain ⟨z0, z1⟩ := HC.out W0 (gb_refl _ _)
  clear hr0 hs G0
  obtain ⟨F, hF⟩ : ∃ F, findL l key 3 = F := ⟨_, rfl⟩
  obtain ⟨n1, hn1⟩ : ∃ n1, F.length = n1 := ⟨_, rfl⟩
  have Hk : Hid (∀ f ∈ F, f.kind = 3) := fun f hf => by
    rw [← hF] at hf
    exact (find_mem.1 hf).2.2.resolve_left (by decide)
  have hn1b : n1 ≤ 100000 := by
    rw [← hn1, ← hF]
    refine Nat.le_trans (find_len _ _ _) ?_
    have := Hs.out.2.1
    rw [show l.length = n from this]; exact Hn.out
  have Hn1 := Lib.hid hn1b
  have HF := Lib.hid hF
  have Hn1F := Lib.hid hn1
  clear hF hn1
  go_enter Try.func66, Try.ntmps66
  go_upto_region 1 with fail
  clear hW0
  go_upto_region 2 with (go_at_call 18; refine (pFind_any A B p c n d ⟨rs, l⟩ key 3 W0 Hs.out Hn.out).mono ?_; rintro e w1 ⟨A1, c1, rfl, hfl, hle1, g1⟩; rw [show findL (St.mk rs l).facts key 3 = F from HF.out, Hn1F.out] at hfl hle1; rw [show findL (St.mk rs l).facts key 3 = F from HF.out, Hn1F.out]; have Hfl := Lib.hid hfl; have Hg1 := Lib.hid (gb_none HG.out g1); clear hfl hle1 g1)
  clear z0 z1
  go_loopw [15, 6, 7] (fun i v u wr => ∃ (k : Nat) (S : Int), k ≤ n1 ∧ i = .int .i64 k ∧ v = .slice none 0 0 ∧ u = .int .i64 S ∧ Hid (S = sumW (F.take k)) ∧ w1.grownBy wr none) (fun i _ _ _ => n1 - (intOf i).toNat)
  case atStart => exact ⟨0, 0, Nat.zero_le _, rfl, rfl, rfl, by show _ = _; rfl, gb_refl _ _⟩
  case round =>
    obtain ⟨k, S, hk, rfl, rfl, rfl, HS0, hg⟩ := hrel
    by_cases hlt : k < n1
    · have d1 : decide (k < n1) = true := decide_eq_true hlt
      have d2 : decide ((k : Int) < (n1 : Int)) = true := decide_eq_true (by omega)
      have bk : (k : Int) < (n1 : Int) := by omega
      have Hlt := Lib.hid hlt
      obtain ⟨g, o, rfl, hgl, hcc⟩ := (Hfl.out.keep hg).2 (by omega)
      obtain ⟨x, hx⟩ : ∃ x, F[k]? = some x := ⟨_, List.getElem?_eq_getElem (by rw [Hn1F.out]; exact hlt)⟩
      obtain ⟨h0, h1, h2, h3, h4, h5⟩ := hcc k x hx
      have hkx := Hk.out x (List.mem_of_getElem? hx)
      rw [hkx] at h3
      obtain ⟨T, hT⟩ : ∃ T, IntKind.i64.wrap (S + x.v) = T := ⟨_, rfl⟩
      have HS : Hid (T = sumW (F.take (k + 1))) := by
        show _ = _
        rw [← hT, HS0.out, List.take_add_one, hx]; exact (sumW_more _ _).symm
      have Hg := Lib.hid (gb_alloc hg (.cells #[.int .i64 x.d, .int .i64 x.n, .string x.key, .int .i64 3, .string x.item, .int .i64 x.v] 37))
      clear hkx hcc hx hgl hg
      go_wp2_with fail
      go_roundw
      case rel => exact ⟨k + 1, T, by have := Hlt.out; omega, by go_num, rfl, by first | rfl | rw [hT], HS.out, Hg.out⟩
      case measure => simp [intOf]; have := Hlt.out; omega
    · have hkn : k = n1 := by omega
      subst hkn
      have d1 : decide (k < k) = false := by simp
      have d2 : decide ((k : Int) < (k : Int)) = false := by simp
      have He : Hid (countT l key = S) := by
        show _ = _
        unfold countT
        rw [HF.out, HS0.out, List.take_of_length_le (by rw [Hn1F.out]; exact Nat.le_refl _)]
      have Hg := Lib.hid hg
      clear hg hlt
      go_wp2_with (go_at_call 64; refine (rising_any 0 0 (.slice none 0 0) [] wr (World.ownsRow_nil _ _ _ _) (by omega)).mono ?_; rintro e w2 ⟨A3, c3, rfl, ht, hc3, hn3, g2⟩)
      go_ret2
      show Told [] (countT l key) w _ _
      rw [He.out]
      exact ⟨A3, c3, rfl, ht, hc3, hn3, gb_none Hg1.out (gb_none Hg.out g2)⟩

set_option maxHeartbeats 16000000 in
set_option maxRecDepth 100000 in
theorem pTexts_any (A B : Option Addr) (p c n d : Nat) (s : St) (key : ByteArray) (w : World) (hs : SL w A p B n s) (hn : n ≤ 100000) :
    Calls Try.prog 42 #[.agg #[.slice A p c, .slice B n d], .string key] w (Texts (itemsT s.facts key 1) w) := by
  obtain ⟨W0, hW0⟩ : ∃ W0, w.alloc (.cells #[.slice A p c, .slice B n d] 26) = W0 := ⟨_, rfl⟩
  have G0 : w.grownBy W0 none := by rw [← hW0]; exact gb_alloc (gb_refl _ _) _
  have hr0 : Row W0 w.heap.size 26 #[.slice A p c, .slice B n d] := by rw [← hW0]; exact Row.new _ _ _
  have z0 := hr0.at_ (i := 0) rfl
  have z1 := hr0.at_ (i := 1) rfl
  have Hs := Lib.hid (hs.keep G0)
  have HG := Lib.hid G0
  have Hn := Lib.hid hn
  clear hr0 hs G0 hn
  go_enter Try.func42, Try.ntmps42
  go_upto_region 1 with fail
  clear hW0
  go_wp2_with (go_at_call 66; refine (told_items1 A B p c n d s key W0 Hs.out Hn.out).mono ?_; rintro e w1 ⟨A1, c1, rfl, ht, hc1, hn1, g1⟩)
  go_ret
  exact ⟨A1, c1, rfl, ht, hc1, hn1, gb_none HG.out g1⟩

set_option maxHeartbeats 16000000 in
set_option maxRecDepth 100000 in
theorem pMembers_any (A B : Option Addr) (p c n d : Nat) (s : St) (key : ByteArray) (w : World) (hs : SL w A p B n s) (hn : n ≤ 100000) :
    Calls Try.prog 44 #[.agg #[.slice A p c, .slice B n d], .string key] w (Texts (itemsT s.facts key 2) w) := by
  obtain ⟨W0, hW0⟩ : ∃ W0, w.alloc (.cells #[.slice A p c, .slice B n d] 26) = W0 := ⟨_, rfl⟩
  have G0 : w.grownBy W0 none := by rw [← hW0]; exact gb_alloc (gb_refl _ _) _
  have hr0 : Row W0 w.heap.size 26 #[.slice A p c, .slice B n d] := by rw [← hW0]; exact Row.new _ _ _
  have z0 := hr0.at_ (i := 0) rfl
  have z1 := hr0.at_ (i := 1) rfl
  have Hs := Lib.hid (hs.keep G0)
  have HG := Lib.hid G0
  have Hn := Lib.hid hn
  clear hr0 hs G0 hn
  go_enter Try.func44, Try.ntmps44
  go_upto_region 1 with fail
  clear hW0
  go_wp2_with (go_at_call 66; refine (told_items2 A B p c n d s key W0 Hs.out Hn.out).mono ?_; rintro e w1 ⟨A1, c1, rfl, ht, hc1, hn1, g1⟩)
  go_ret
  exact ⟨A1, c1, rfl, ht, hc1, hn1, gb_none HG.out g1⟩

set_option maxHeartbeats 16000000 in
set_option maxRecDepth 100000 in
theorem pCount_any (A B : Option Addr) (p c n d : Nat) (s : St) (key : ByteArray) (w : World) (hs : SL w A p B n s) (hn : n ≤ 100000) :
    Calls Try.prog 45 #[.agg #[.slice A p c, .slice B n d], .string key] w (fun e w' => e = .returned (.int .i64 (countT s.facts key)) ∧ w.grownBy w' none) := by
  obtain ⟨W0, hW0⟩ : ∃ W0, w.alloc (.cells #[.slice A p c, .slice B n d] 26) = W0 := ⟨_, rfl⟩
  have G0 : w.grownBy W0 none := by rw [← hW0]; exact gb_alloc (gb_refl _ _) _
  have hr0 : Row W0 w.heap.size 26 #[.slice A p c, .slice B n d] := by rw [← hW0]; exact Row.new _ _ _
  have z0 := hr0.at_ (i := 0) rfl
  have z1 := hr0.at_ (i := 1) rfl
  have Hs := Lib.hid (hs.keep G0)
  have HG := Lib.hid G0
  have Hn := Lib.hid hn
  clear hr0 hs G0 hn
  go_enter Try.func45, Try.ntmps45
  go_upto_region 1 with fail
  clear hW0
  go_wp2_with (go_at_call 66; refine (told_count A B p c n d s key W0 Hs.out Hn.out).mono ?_; rintro e w1 ⟨A1, c1, rfl, ht, hc1, hn1, g1⟩)
  go_ret
  exact ⟨rfl, gb_none HG.out g1⟩
end Go.Proofs.Ytblndpfgfakdeaa.Dt

namespace Go.Proofs.Ytblndpfgfakdeaa.Dt
open Go Go.RowKit Go.Proofs.Ytblndpfgfakdeaa.Mm Go.Proofs.Ytblndpfgfakdeaa.Td

theorem insT_pos (s : Tx) : ∀ l, (insT s l).length ≠ 0
  | [] => by simp [insT]
  | x :: l => by
    rw [insT]
    split
    · simp
    · split <;> simp
theorem set_take_more {l : List Fc} {k : Nat} {x : Fc} (h : l[k]? = some x) (f : Fc → Tx) : insT (f x) (setT ((l.take k).map f)) = setT ((l.take (k + 1)).map f) := by
  rw [List.take_add_one, h, List.map_append]
  exact (setT_more _ _).symm
set_option maxHeartbeats 16000000 in
set_option maxRecDepth 100000 in
theorem refKeys_any (A B : Option Addr) (p c n d : Nat) (s : St) (w : World) (hs : SL w A p B n s) (hn : n ≤ 100000) :
    Calls Try.prog 41 #[.agg #[.slice A p c, .slice B n d]] w (Texts (keysT s.facts) w) := by
  obtain ⟨rs, l⟩ := s
  obtain ⟨W0, hW0⟩ : ∃ W0, w.alloc (.cells #[.slice A p c, .slice B n d] 26) = W0 := ⟨_, rfl⟩
  have G0 : w.grownBy W0 none := by rw [← hW0]; exact gb_alloc (gb_refl _ _) _
  have hr0 : Row W0 w.heap.size 26 #[.slice A p c, .slice B n d] := by rw [← hW0]; exact Row.new _ _ _
  have HC : Hid (∀ W, W0.grownBy W none → W.cell? ⟨w.heap.size, 0, none⟩ = some (.slice A p c) ∧ W.cell? ⟨w.heap.size, 1, none⟩ = some (.slice B n d)) :=
    fun W hW => ⟨(hr0.kept hW (by simp)).at_ (i := 0) rfl, (hr0.kept hW (by simp)).at_ (i := 1) rfl⟩
  have Hs : Hid (SL W0 A p B n ⟨rs, l⟩) := hs.keep G0
  have HG := Lib.hid G0
  have Hn := Lib.hid hn
  obtain ⟨z0, z1⟩ := HC.out W0 (gb_refl _ _)
  clear hr0 hs G0
  go_enter Try.func41, Try.ntmps41
  go_upto_region 1 with fail
  clear hW0
  go_wp2_with fail
  go_loopw [4, 3] (fun i v wr => ∃ (k : Nat) (L : List Tx) (A2 : Option Addr) (c2 : Nat), k ≤ n ∧ i = .int .i64 k ∧ v = .slice A2 L.length c2 ∧ Hid (L = setT ((l.take k).map fun f => tx f.key)) ∧ TL wr A2 L.length L ∧ L.length ≤ c2 ∧ (A2 = none → c2 = 0) ∧ (L.length = 0 → A2 = none) ∧ W0.grownBy wr none) (fun i _ _ => n - (intOf i).toNat)
  case atStart => exact ⟨0, [], none, 0, Nat.zero_le _, rfl, rfl, by show _ = _; simp [setT], TL.none _ _, Nat.le_refl _, fun _ => rfl, fun _ => rfl, gb_refl _ _⟩
  case round =>
    obtain ⟨k, L, A2, c2, hk, rfl, rfl, HL0, ht, hc2, hn2, hz2, hg⟩ := hrel
    have HT : Hid (TL wr A2 L.length L ∧ L.length ≤ c2 ∧ (A2 = none → c2 = 0) ∧ (L.length = 0 → A2 = none)) := ⟨ht, hc2, hn2, hz2⟩
    have Hg := Lib.hid hg
    have HLn : Hid (L.length ≤ 100000) := by
      show _ ≤ _
      rw [HL0.out]
      refine Nat.le_trans (setT_len _) ?_
      rw [List.length_map, List.length_take]
      exact Nat.le_trans (Nat.min_le_left _ _) (Nat.le_trans hk Hn.out)
    obtain ⟨y0, y1⟩ := HC.out wr hg
    by_cases hlt : k < n
    · have d1 : decide (k < n) = true := decide_eq_true hlt
      have d2 : decide ((k : Int) < (n : Int)) = true := decide_eq_true (by omega)
      have bk : (k : Int) < (n : Int) := by omega
      have Hlt := Lib.hid hlt
      obtain ⟨g, o, rfl, hgl, hcc⟩ := (Hs.out.keep hg).2.2 (by omega)
      obtain ⟨x, hx⟩ : ∃ x, l[k]? = some x := ⟨_, List.getElem?_eq_getElem (by have := Hs.out.2.1; show k < l.length; rw [show l.length = n from this]; exact hlt)⟩
      obtain ⟨h0, h1, h2, h3, h4, h5⟩ := hcc k x hx
      have HL : Hid (insT (tx x.key) L = setT ((l.take (k + 1)).map fun f => tx f.key)) := by show _ = _; rw [HL0.out]; exact set_take_more hx (fun f => tx f.key)
      clear hcc hx hgl hg ht hc2 hn2 hz2 hlt h0 h1 h3 h4 h5
      go_wp2_with (go_at_call 65; refine (insert_any A2 L.length c2 L x.key wr HT.out.1 HT.out.2.1 HT.out.2.2.1 HLn.out HT.out.2.2.2).mono ?_; rintro e w2 ⟨A3, c3, rfl, ht3, hc3, hn3, g2⟩)
      go_roundw
      case rel => exact ⟨k + 1, insT (tx x.key) L, A3, c3, by have := Hlt.out; omega, by go_num, rfl, HL.out, ht3, hc3, hn3, fun h => absurd h (insT_pos _ _), gb_none Hg.out g2⟩
      case measure => simp [intOf]; have := Hlt.out; omega
    · have hkn : k = n := by omega
      subst hkn
      have d1 : decide (k < k) = false := by simp
      have d2 : decide ((k : Int) < (k : Int)) = false := by simp
      have He : Hid (keysT l = L) := by
        show _ = _
        rw [HL0.out, List.take_of_length_le (by have := Hs.out.2.1; rw [show l.length = k from this]; exact Nat.le_refl _)]; rfl
      clear hg ht hc2 hn2 hz2 hlt
      go_wp2_with fail
      go_ret
      show Texts (keysT l) w _ _
      rw [He.out]
      exact ⟨A2, c2, rfl, HT.out.1, HT.out.2.1, HT.out.2.2.1, gb_none HG.out Hg.out⟩

set_option maxHeartbeats 16000000 in
set_option maxRecDepth 100000 in
theorem refItems_any (A B : Option Addr) (p c n d : Nat) (s : St) (key : ByteArray) (kind : Int) (w : World) (hs : SL w A p B n s) (hn : n ≤ 100000) :
    Calls Try.prog 43 #[.agg #[.slice A p c, .slice B n d], .string key, .int .i64 kind] w (Texts (itemsT s.facts key kind) w) := by
  obtain ⟨rs, l⟩ := s
  obtain ⟨W0, hW0⟩ : ∃ W0, w.alloc (.cells #[.slice A p c, .slice B n d] 26) = W0 := ⟨_, rfl⟩
  have G0 : w.grownBy W0 none := by rw [← hW0]; exact gb_alloc (gb_refl _ _) _
  have hr0 : Row W0 w.heap.size 26 #[.slice A p c, .slice B n d] := by rw [← hW0]; exact Row.new _ _ _
  have HC : Hid (∀ W, W0.grownBy W none → W.cell? ⟨w.heap.size, 0, none⟩ = some (.slice A p c) ∧ W.cell? ⟨w.heap.size, 1, none⟩ = some (.slice B n d)) :=
    fun W hW => ⟨(hr0.kept hW (by simp)).at_ (i := 0) rfl, (hr0.kept hW (by simp)).at_ (i := 1) rfl⟩
  have Hs : Hid (SL W0 A p B n ⟨rs, l⟩) := hs.keep G0
  have HG := Lib.hid G0
  have Hn := Lib.hid hn
  obtain ⟨z0, z1⟩ := HC.out W0 (gb_refl _ _)
  clear hr0 hs G0
  obtain ⟨F, hF⟩ : ∃ F, findL l key kind = F := ⟨_, rfl⟩
  obtain ⟨n1, hn1⟩ : ∃ n1, F.length = n1 := ⟨_, rfl⟩
  have hn1b : n1 ≤ 100000 := by
    rw [← hn1, ← hF]
    refine Nat.le_trans (find_len _ _ _) ?_
    have := Hs.out.2.1
    rw [show l.length = n from this]; exact Hn.out
  have Hn1 := Lib.hid hn1b
  have HF := Lib.hid hF
  have Hn1F := Lib.hid hn1
  clear hF hn1
  go_enter Try.func43, Try.ntmps43
  go_upto_region 2 with fail
  clear hW0
  go_upto_region 3 with (go_at_call 19; refine (refFind_any A B p c n d ⟨rs, l⟩ key kind W0 Hs.out Hn.out).mono ?_; rintro e w1 ⟨A1, c1, rfl, hfl, hle1, g1⟩; rw [show findL (St.mk rs l).facts key kind = F from HF.out, Hn1F.out] at hfl hle1; rw [show findL (St.mk rs l).facts key kind = F from HF.out, Hn1F.out]; have Hfl := Lib.hid hfl; have Hg1 := Lib.hid (gb_none HG.out g1); clear hfl hle1 g1)
  clear z0 z1
  go_wp2_with fail
  go_loopw [9, 7] (fun i v wr => ∃ (k : Nat) (L : List Tx) (A2 : Option Addr) (c2 : Nat), k ≤ n1 ∧ i = .int .i64 k ∧ v = .slice A2 L.length c2 ∧ Hid (L = setT ((F.take k).map fun f => tx f.item)) ∧ TL wr A2 L.length L ∧ L.length ≤ c2 ∧ (A2 = none → c2 = 0) ∧ (L.length = 0 → A2 = none) ∧ w1.grownBy wr none) (fun i _ _ => n1 - (intOf i).toNat)
  case atStart => exact ⟨0, [], none, 0, Nat.zero_le _, rfl, rfl, by show _ = _; simp [setT], TL.none _ _, Nat.le_refl _, fun _ => rfl, fun _ => rfl, gb_refl _ _⟩
  case round =>
    obtain ⟨k, L, A2, c2, hk, rfl, rfl, HL0, ht, hc2, hn2, hz2, hg⟩ := hrel
    have HT : Hid (TL wr A2 L.length L ∧ L.length ≤ c2 ∧ (A2 = none → c2 = 0) ∧ (L.length = 0 → A2 = none)) := ⟨ht, hc2, hn2, hz2⟩
    have Hg := Lib.hid hg
    have HLn : Hid (L.length ≤ 100000) := by
      show _ ≤ _
      rw [HL0.out]
      refine Nat.le_trans (setT_len _) ?_
      rw [List.length_map, List.length_take]
      exact Nat.le_trans (Nat.min_le_left _ _) (Nat.le_trans hk Hn1.out)
    by_cases hlt : k < n1
    · have d1 : decide (k < n1) = true := decide_eq_true hlt
      have d2 : decide ((k : Int) < (n1 : Int)) = true := decide_eq_true (by omega)
      have bk : (k : Int) < (n1 : Int) := by omega
      have Hlt := Lib.hid hlt
      obtain ⟨g, o, rfl, hgl, hcc⟩ := (Hfl.out.keep hg).2 (by omega)
      obtain ⟨x, hx⟩ : ∃ x, F[k]? = some x := ⟨_, List.getElem?_eq_getElem (by rw [Hn1F.out]; exact hlt)⟩
      obtain ⟨h0, h1, h2, h3, h4, h5⟩ := hcc k x hx
      have HL : Hid (insT (tx x.item) L = setT ((F.take (k + 1)).map fun f => tx f.item)) := by show _ = _; rw [HL0.out]; exact set_take_more hx (fun f => tx f.item)
      clear hcc hx hgl hg ht hc2 hn2 hz2 hlt h0 h1 h2 h3 h5
      go_wp2_with (go_at_call 65; refine (insert_any A2 L.length c2 L x.item wr HT.out.1 HT.out.2.1 HT.out.2.2.1 HLn.out HT.out.2.2.2).mono ?_; rintro e w2 ⟨A3, c3, rfl, ht3, hc3, hn3, g2⟩)
      go_roundw
      case rel => exact ⟨k + 1, insT (tx x.item) L, A3, c3, by have := Hlt.out; omega, by go_num, rfl, HL.out, ht3, hc3, hn3, fun h => absurd h (insT_pos _ _), gb_none Hg.out g2⟩
      case measure => simp [intOf]; have := Hlt.out; omega
    · have hkn : k = n1 := by omega
      subst hkn
      have d1 : decide (k < k) = false := by simp
      have d2 : decide ((k : Int) < (k : Int)) = false := by simp
      have He : Hid (itemsT l key kind = L) := by
        show _ = _
        unfold itemsT
        rw [HF.out, HL0.out, List.take_of_length_le (by rw [Hn1F.out]; exact Nat.le_refl _)]
      clear hg ht hc2 hn2 hz2 hlt
      go_wp2_with fail
      go_ret
      show Texts (itemsT l key kind) w _ _
      rw [He.out]
      exact ⟨A2, c2, rfl, HT.out.1, HT.out.2.1, HT.out.2.2.1, gb_none Hg1.out Hg.out⟩

set_option maxHeartbeats 16000000 in
set_option maxRecDepth 100000 in
theorem refCount_any (A B : Option Addr) (p c n d : Nat) (s : St) (key : ByteArray) (w : World) (hs : SL w A p B n s) (hn : n ≤ 100000) :
    Calls Try.prog 46 #[.agg #[.slice A p c, .slice B n d], .string key] w (fun e w' => e = .returned (.int .i64 (countT s.facts key)) ∧ w.grownBy w' none) := by
  obtain ⟨rs, l⟩ := s
  obtain ⟨W0, hW0⟩ : ∃ W0, w.alloc (.cells #[.slice A p c, .slice B n d] 26) = W0 := ⟨_, rfl⟩
  have G0 : w.grownBy W0 none := by rw [← hW0]; exact gb_alloc (gb_refl _ _) _
  have hr0 : Row W0 w.heap.size 26 #[.slice A p c, .slice B n d] := by rw [← hW0]; exact Row.new _ _ _
  have HC : Hid (∀ W, W0.grownBy W none → W.cell? ⟨w.heap.size, 0, none⟩ = some (.slice A p c) ∧ W.cell? ⟨w.heap.size, 1, none⟩ = some (.slice B n d)) :=
    fun W hW => ⟨(hr0.kept hW (by simp)).at_ (i := 0) rfl, (hr0.kept hW (by simp)).at_ (i := 1) rfl⟩
  have Hs : Hid (SL W0 A p B n ⟨rs, l⟩) := hs.keep G0
  have HG := Lib.hid G0
  have Hn := Lib.hid hn
  obtain ⟨z0, z1⟩ := HC.out W0 (gb_refl _ _)
  clear hr0 hs G0
  obtain ⟨F, hF⟩ : ∃ F, findL l key 3 = F := ⟨_, rfl⟩
  obtain ⟨n1, hn1⟩ : ∃ n1, F.length = n1 := ⟨_, rfl⟩
  have Hk : Hid (∀ f ∈ F, f.kind = 3) := fun f hf => by
    rw [← hF] at hf
    exact (find_mem.1 hf).2.2.resolve_left (by decide)
  have hn1b : n1 ≤ 100000 := by
    rw [← hn1, ← hF]
    refine Nat.le_trans (find_len _ _ _) ?_
    have := Hs.out.2.1
    rw [show l.length = n from this]; exact Hn.out
  have Hn1 := Lib.hid hn1b
  have HF := Lib.hid hF
  have Hn1F := Lib.hid hn1
  clear hF hn1
  go_enter Try.func46, Try.ntmps46
  go_upto_region 2 with fail
  clear hW0
  go_upto_region 3 with (go_at_call 19; refine (refFind_any A B p c n d ⟨rs, l⟩ key 3 W0 Hs.out Hn.out).mono ?_; rintro e w1 ⟨A1, c1, rfl, hfl, hle1, g1⟩; rw [show findL (St.mk rs l).facts key 3 = F from HF.out, Hn1F.out] at hfl hle1; rw [show findL (St.mk rs l).facts key 3 = F from HF.out, Hn1F.out]; have Hfl := Lib.hid hfl; have Hg1 := Lib.hid (gb_none HG.out g1); clear hfl hle1 g1)
  clear z0 z1
  go_wp2_with fail
  go_loopw [7, 5] (fun i u wr => ∃ (k : Nat) (S : Int), k ≤ n1 ∧ i = .int .i64 k ∧ u = .int .i64 S ∧ Hid (S = sumW (F.take k)) ∧ w1.grownBy wr none) (fun i _ _ => n1 - (intOf i).toNat)
  case atStart => exact ⟨0, 0, Nat.zero_le _, rfl, rfl, by show _ = _; rfl, gb_refl _ _⟩
  case round =>
    obtain ⟨k, S, hk, rfl, rfl, HS0, hg⟩ := hrel
    by_cases hlt : k < n1
    · have d1 : decide (k < n1) = true := decide_eq_true hlt
      have d2 : decide ((k : Int) < (n1 : Int)) = true := decide_eq_true (by omega)
      have bk : (k : Int) < (n1 : Int) := by omega
      have Hlt := Lib.hid hlt
      obtain ⟨g, o, rfl, hgl, hcc⟩ := (Hfl.out.keep hg).2 (by omega)
      obtain ⟨x, hx⟩ : ∃ x, F[k]? = some x := ⟨_, List.getElem?_eq_getElem (by rw [Hn1F.out]; exact hlt)⟩
      obtain ⟨h0, h1, h2, h3, h4, h5⟩ := hcc k x hx
      obtain ⟨T, hT⟩ : ∃ T, IntKind.i64.wrap (S + x.v) = T := ⟨_, rfl⟩
      have HS : Hid (T = sumW (F.take (k + 1))) := by
        show _ = _
        rw [← hT, HS0.out, List.take_add_one, hx]; exact (sumW_more _ _).symm
      have Hg := Lib.hid hg
      clear hcc hx hgl hg h0 h1 h2 h3 h4
      go_wp2_with fail
      go_roundw
      case rel => exact ⟨k + 1, T, by have := Hlt.out; omega, by go_num, by first | rfl | rw [hT], HS.out, Hg.out⟩
      case measure => simp [intOf]; have := Hlt.out; omega
    · have hkn : k = n1 := by omega
      subst hkn
      have d1 : decide (k < k) = false := by simp
      have d2 : decide ((k : Int) < (k : Int)) = false := by simp
      have He : Hid (countT l key = S) := by
        show _ = _
        unfold countT
        rw [HF.out, HS0.out, List.take_of_length_le (by rw [Hn1F.out]; exact Nat.le_refl _)]
      clear hlt
      go_wp2_with fail
      go_ret
      exact ⟨by rw [He.out]; rfl, gb_none Hg1.out hg⟩
end Go.Proofs.Ytblndpfgfakdeaa.Dt

namespace Go.Proofs.Ytblndpfgfakdeaa.Dt
open Go Go.RowKit Go.Proofs.Ytblndpfgfakdeaa.Mm Go.Proofs.Ytblndpfgfakdeaa.Td

/-- Texts, as a slice's value. -/
def textsV (l : List Tx) : Td.Spec := fun W v => ∃ A c, v = .slice A l.length c ∧ TL W A l.length l ∧ l.length ≤ c
theorem textsV_stays {l : List Tx} : Stays (fun a b => a.grownBy b none) (textsV l) := fun _ _ _ h ⟨A, c, e, h1, h2⟩ => ⟨A, c, e, h1.keep h, h2⟩
theorem wk10 : itemsT (makeK [0, 1] 1).facts ⟨#[107]⟩ 1 = [[98]] := by decide +kernel
set_option maxHeartbeats 8000000 in
set_option maxRecDepth 100000 in
theorem awake10_any (w : World) : Calls Try.prog 38 #[] w fun e w' => e = .returned (.bool true) ∧ w.grownBy w' none := by
  obtain ⟨s, hs⟩ : ∃ s, makeK [0, 1] 1 = s := ⟨_, rfl⟩
  have hit : itemsT s.facts ⟨#[107]⟩ 1 = [[98]] := by rw [← hs]; exact wk10
  have hsh := (makeK_low [0, 1] 1).short (makeK_may [0, 1] 1)
  rw [hs] at hsh
  have HMk : Hid (Calls Try.prog 15 #[.slice (some ⟨w.heap.size, 0, none⟩) 2 2] (w.alloc (.cells #[.int .u8 0, .int .u8 1] 5)) (States s (w.alloc (.cells #[.int .u8 0, .int .u8 1] 5)))) := by
    have h := make_any (some ⟨w.heap.size, 0, none⟩) 2 2 [0, 1] _ (nl_two w 0 1 5 (by decide) (by decide))
    rw [show min (2 / 2) 40 = 1 from rfl, hs] at h
    exact h
  have Hit := Lib.hid hit
  have Hsh := Lib.hid hsh
  have HG0 : Hid (w.grownBy (w.alloc (.cells #[.int .u8 0, .int .u8 1] 5)) none) := gb_alloc (gb_refl _ _) _
  clear hs hit hsh
  go_enter Try.func38, Try.ntmps38
  go_upto_region 2 with (first
    | (go_at_call 15; refine HMk.out.mono ?_; rintro e w1 ⟨A, n, c, B, m, d, rfl, hs, hc, hd, g1⟩; have Hs := Lib.hid hs; have Hm : Hid (m ≤ 100000) := (by show _ ≤ _; have h1 := hs.2.1; have := Hsh.out; omega); have HG1 := Lib.hid (gb_none HG0.out g1); clear hs hc hd g1)
    | (go_at_call 42; refine (pTexts_any A B n c m d s ⟨#[107]⟩ w1 Hs.out Hm.out).mono ?_; rw [Hit.out]; rintro e w2 ⟨A2, c2, rfl, ht, hc2, hn2, g2⟩; have HG2 := Lib.hid (gb_none HG1.out g2); have Ht := Lib.hid ht; clear ht g2 hc2 hn2))
  clear HMk
  obtain ⟨g, o, rfl, hgl, hcc⟩ := Ht.out.2 (by decide)
  clear hgl hcc
  go_wp2_with (go_at_call 45; refine (pCount_any none none 0 0 0 0 none_ ⟨#[107]⟩ w2 ⟨RL.none _ _, FL.none _ _⟩ (by omega)).mono ?_; rintro e w3 ⟨rfl, g3⟩; rw [show countT none_.facts ⟨#[107]⟩ = 0 from rfl]; have hb : w3.cell? ⟨g, o, none⟩ = some (.string ⟨#[98]⟩) := tl_at (i := 0) (Ht.out.keep g3) rfl; have HG3 := Lib.hid (gb_none HG2.out g3); clear g3)
  go_ret
  exact ⟨rfl, HG3.out⟩
end Go.Proofs.Ytblndpfgfakdeaa.Dt
