/- Lists of ints in memory; who is in of eight. Written by gen_ro.py. -/
import Derived.Test.YtaecfcodldbnhaaRoP
import Derived.Test.YtaecfcodldbnhaaMbRefC
import Derived.Laws.AppendOwn
import Derived.Laws.AppendOwnNone
set_option linter.unusedVariables false
namespace Go.Proofs.Ytaecfcodldbnhaa.Ro
open Go Go.RowKit Go.Proofs.Ytaecfcodldbnhaa.Mm Go.Proofs.Ytaecfcodldbnhaa.Td Go.Proofs.Ytaecfcodldbnhaa.Vw Go.Proofs.Ytaecfcodldbnhaa.Dt

open Go.Proofs.Ytaecfcodldbnhaa.Mb
attribute [local go_sem] Td.upon_value Td.upon_skip Td.upon_enter Td.upon_row Td.look_tmp Td.look_const Td.look_func Td.look_global
/-- The slice at A, of n numbers, reads as these. -/
def IL (w : World) (A : Option Addr) (n : Nat) (L : List Int) : Prop :=
  L.length = n ∧ (0 < n → ∃ g o, A = some ⟨g, o, none⟩ ∧ g < w.heap.size ∧ ∀ i x, L[i]? = some x → w.cell? ⟨g, o + i, none⟩ = some (.int .i64 x))
theorem IL.keep {w w' : World} {A : Option Addr} {n : Nat} {L : List Int} (h : IL w A n L) (hg : w.grownBy w' none) : IL w' A n L := by
  refine ⟨h.1, fun hn => ?_⟩
  obtain ⟨g, o, e, hl, hc⟩ := h.2 hn
  exact ⟨g, o, e, Nat.lt_of_lt_of_le hl hg.size, fun i x hx => (World.cell?_of_block (a := ⟨g, o + i, none⟩) (hg.block g hl (by simp))).trans (hc i x hx)⟩
theorem IL.none (w : World) (A : Option Addr) : IL w A 0 [] := ⟨rfl, fun h => absurd h (by omega)⟩
theorem il_at {w : World} {g o n : Nat} {L : List Int} (h : IL w (some ⟨g, o, Option.none⟩) n L) {i : Nat} {x : Int} (hx : L[i]? = some x) : g < w.heap.size ∧ w.cell? ⟨g, o + i, Option.none⟩ = some (.int .i64 x) := by
  have hi := (List.getElem?_eq_some_iff.1 hx).1
  obtain ⟨g', o', e, hg, hc⟩ := h.2 (by have := h.1; omega)
  cases e
  exact ⟨hg, hc i x hx⟩
theorem int_inf : (Try.prog.info? 3).map (fun i => (i.zero, i.size, i.bytes)) = some (some (.int .i64 0), 1, 8) := by kernel_rfl
theorem int_parts : ∃ i, Try.prog.info? 3 = some i ∧ i.zero = some (.int .i64 0) ∧ i.size = 1 ∧ i.bytes = 8 := by
  obtain ⟨i, hi, h⟩ := Option.map_eq_some_iff.1 int_inf
  simp only [Prod.mk.injEq] at h
  exact ⟨i, hi, h.1, h.2.1, h.2.2⟩
def ivs (L : List Int) : List Value := L.map (Value.int .i64)
theorem ivs_len (L : List Int) : (ivs L).length = L.length := List.length_map _
theorem ivs_one (L : List Int) : ∀ u ∈ ivs L, u.oneCell' = true := by
  intro u hu
  simp only [ivs, List.mem_map] at hu
  obtain ⟨x, _, rfl⟩ := hu
  rfl
theorem one_new (w : World) (x : Int) (t : TypeId) : ∀ j u, (ivs [x])[j]? = some u → (w.alloc (.cells #[.int .i64 x] t)).cell? ((⟨w.heap.size, 0, none⟩ : Addr).add j) = some u := fun j u hu => by
  have hadd : (⟨w.heap.size, 0, none⟩ : Addr).add j = ⟨w.heap.size, j, none⟩ := by unfold Addr.add; split <;> simp_all
  rw [hadd]
  have := cell_of_row _ w.heap.size j #[.int .i64 x] t (0, 0) (heap_alloc_new w _)
  rw [this]
  simpa [ivs] using hu
theorem own_slice1 {w : World} {B : Nat} {e : TypeId} {v : Value} {n : Nat} {xs : List Value} (h : w.ownsRow B e 1 v n xs) : ∃ A m c, v = .slice A m c := by
  rcases h.2 with ⟨rfl, _⟩ | ⟨g, cap, cur, rfl, _⟩
  · exact ⟨_, _, _, rfl⟩
  · exact ⟨_, _, _, rfl⟩
theorem own_far1 {w : World} {B : Nat} {e : TypeId} {v : Value} {n : Nat} {xs : List Value} (h : w.ownsRow B e 1 v n xs) : ∀ i, v.ownBlock = some i → B ≤ i := fun i hi => by
  rcases h.2 with ⟨rfl, _⟩ | ⟨g, cap, cur, rfl, hB, _⟩
  · simp [Value.ownBlock] at hi
  · simp [Value.ownBlock] at hi; omega
theorem own_il {w : World} {B n : Nat} {t : TypeId} {v : Value} {L : List Int} (h : w.ownsRow B t 1 v n (ivs L)) (hn : L.length = n) : ∃ A c, v = .slice A n c ∧ IL w A n L := by
  have hcells := fun (g : Nat) (hg : v.ownBlock = some g) => World.ownsRow.cells h hg
  rcases h.2 with ⟨rfl, h0⟩ | ⟨g, cap, cur, rfl, hB, hg, hle, _⟩
  · exact ⟨none, 0, by rw [h0], ⟨hn, fun hp => absurd hp (by omega)⟩⟩
  · refine ⟨_, cap, rfl, ⟨hn, fun _ => ⟨g, 0, rfl, (Array.getElem?_eq_some_iff.1 hg).1, fun i x hx => ?_⟩⟩⟩
    have := hcells g rfl i (.int .i64 x) (by unfold ivs; rw [List.getElem?_map, hx]; rfl)
    have hadd : (⟨g, 0, none⟩ : Addr).add i = ⟨g, 0 + i, none⟩ := by unfold Addr.add; split <;> simp_all
    rwa [hadd] at this
/-- A list of numbers that was told. -/
def IntsIs (L : List Int) (w : World) (e : Ending) (w' : World) : Prop := ∃ A c, e = .returned (.slice A L.length c) ∧ IL w' A L.length L ∧ w.grownBy w' none
/-! ### Who is in, of eight -/
theorem in_goes {l : List Rc} {r : Rc} {e d : Int} (h0 : 0 ≤ d) (h8 : d < 8) : inB (l ++ [r]) e d = goesIn e d (inB l e d) r := by
  unfold inB
  rw [inL_snoc, decide_eq_true h0, decide_eq_true h8, Bool.and_self, Bool.and_true, Bool.and_true]
def pres (l : List Rc) (e : Int) : Array Value := #[.bool (inB l e 0), .bool (inB l e 1), .bool (inB l e 2), .bool (inB l e 3), .bool (inB l e 4), .bool (inB l e 5), .bool (inB l e 6), .bool (inB l e 7)]
theorem pres_size (l : List Rc) (e : Int) : (pres l e).size = 8 := rfl
theorem pres_nil (e : Int) : pres [] e = #[.bool false, .bool false, .bool false, .bool false, .bool false, .bool false, .bool false, .bool false] := by
  unfold pres
  simp only [in_nil]
theorem pres_one (l : List Rc) (e : Int) : (pres l e).all (·.oneCell') = true := by simp [pres, Value.oneCell']
theorem pres_at (l : List Rc) (e : Int) {j : Nat} (hj : j < 8) : (pres l e)[j]? = some (.bool (inB l e (j : Int))) := by
  rcases (show j = 0 ∨ j = 1 ∨ j = 2 ∨ j = 3 ∨ j = 4 ∨ j = 5 ∨ j = 6 ∨ j = 7 by omega) with rfl | rfl | rfl | rfl | rfl | rfl | rfl | rfl <;> rfl
theorem pres_keep {l : List Rc} {r : Rc} {e : Int} (h : ¬ (r.seq ≤ e ∧ (0 ≤ r.dev ∧ r.dev < 8) ∧ (r.kind = 1 ∨ r.kind = 2))) : pres (l ++ [r]) e = pres l e := by
  have g : ∀ d : Int, 0 ≤ d → d < 8 → inB (l ++ [r]) e d = inB l e d := fun d h0 h8 => by
    rw [in_goes h0 h8]
    exact goes_out fun k => h ⟨k.1, by rw [k.2.1]; exact ⟨h0, h8⟩, k.2.2⟩
  unfold pres
  rw [g 0 (by decide) (by decide), g 1 (by decide) (by decide), g 2 (by decide) (by decide), g 3 (by decide) (by decide), g 4 (by decide) (by decide), g 5 (by decide) (by decide), g 6 (by decide) (by decide), g 7 (by decide) (by decide)]
theorem pres_set {l : List Rc} {r : Rc} {e : Int} {j : Nat} {q : Bool} (hs : r.seq ≤ e) (hd : r.dev = (j : Int)) (hj : j < 8) (hk : r.kind = 1 ∨ r.kind = 2) (hq : decide (r.kind = 1) = q) : pres (l ++ [r]) e = (pres l e).setIfInBounds j (.bool q) := by
  have g : ∀ d : Int, 0 ≤ d → d < 8 → d ≠ (j : Int) → inB (l ++ [r]) e d = inB l e d := fun d h0 h8 hn => by
    rw [in_goes h0 h8]
    exact goes_out fun k => hn (by rw [← k.2.1, hd])
  have s : inB (l ++ [r]) e (j : Int) = q := by
    rw [in_goes (by omega) (by omega)]
    exact goes_in ⟨hs, hd, hk⟩ hq
  unfold pres
  rcases (show j = 0 ∨ j = 1 ∨ j = 2 ∨ j = 3 ∨ j = 4 ∨ j = 5 ∨ j = 6 ∨ j = 7 by omega) with rfl | rfl | rfl | rfl | rfl | rfl | rfl | rfl
  · have s : inB (l ++ [r]) e 0 = q := s
    rw [s, g 1 (by decide) (by decide) (by decide), g 2 (by decide) (by decide) (by decide), g 3 (by decide) (by decide) (by decide), g 4 (by decide) (by decide) (by decide), g 5 (by decide) (by decide) (by decide), g 6 (by decide) (by decide) (by decide), g 7 (by decide) (by decide) (by decide)]
    rfl
  · have s : inB (l ++ [r]) e 1 = q := s
    rw [s, g 0 (by decide) (by decide) (by decide), g 2 (by decide) (by decide) (by decide), g 3 (by decide) (by decide) (by decide), g 4 (by decide) (by decide) (by decide), g 5 (by decide) (by decide) (by decide), g 6 (by decide) (by decide) (by decide), g 7 (by decide) (by decide) (by decide)]
    rfl
  · have s : inB (l ++ [r]) e 2 = q := s
    rw [s, g 0 (by decide) (by decide) (by decide), g 1 (by decide) (by decide) (by decide), g 3 (by decide) (by decide) (by decide), g 4 (by decide) (by decide) (by decide), g 5 (by decide) (by decide) (by decide), g 6 (by decide) (by decide) (by decide), g 7 (by decide) (by decide) (by decide)]
    rfl
  · have s : inB (l ++ [r]) e 3 = q := s
    rw [s, g 0 (by decide) (by decide) (by decide), g 1 (by decide) (by decide) (by decide), g 2 (by decide) (by decide) (by decide), g 4 (by decide) (by decide) (by decide), g 5 (by decide) (by decide) (by decide), g 6 (by decide) (by decide) (by decide), g 7 (by decide) (by decide) (by decide)]
    rfl
  · have s : inB (l ++ [r]) e 4 = q := s
    rw [s, g 0 (by decide) (by decide) (by decide), g 1 (by decide) (by decide) (by decide), g 2 (by decide) (by decide) (by decide), g 3 (by decide) (by decide) (by decide), g 5 (by decide) (by decide) (by decide), g 6 (by decide) (by decide) (by decide), g 7 (by decide) (by decide) (by decide)]
    rfl
  · have s : inB (l ++ [r]) e 5 = q := s
    rw [s, g 0 (by decide) (by decide) (by decide), g 1 (by decide) (by decide) (by decide), g 2 (by decide) (by decide) (by decide), g 3 (by decide) (by decide) (by decide), g 4 (by decide) (by decide) (by decide), g 6 (by decide) (by decide) (by decide), g 7 (by decide) (by decide) (by decide)]
    rfl
  · have s : inB (l ++ [r]) e 6 = q := s
    rw [s, g 0 (by decide) (by decide) (by decide), g 1 (by decide) (by decide) (by decide), g 2 (by decide) (by decide) (by decide), g 3 (by decide) (by decide) (by decide), g 4 (by decide) (by decide) (by decide), g 5 (by decide) (by decide) (by decide), g 7 (by decide) (by decide) (by decide)]
    rfl
  · have s : inB (l ++ [r]) e 7 = q := s
    rw [s, g 0 (by decide) (by decide) (by decide), g 1 (by decide) (by decide) (by decide), g 2 (by decide) (by decide) (by decide), g 3 (by decide) (by decide) (by decide), g 4 (by decide) (by decide) (by decide), g 5 (by decide) (by decide) (by decide), g 6 (by decide) (by decide) (by decide)]
    rfl
end Go.Proofs.Ytaecfcodldbnhaa.Ro
