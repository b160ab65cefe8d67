/- Who is a member, up to an epoch: the list of them; records of later epochs say nothing; each record of a right chain changes its device alone. Pure. Lists of ints in memory; who is in of eight. Written by gen_ro.py. The document's Members, Ints. Written by gen_ro.py. -/
import Derived.Test.YtpcjbjpofcdjeaaGreatDoorMbRefCq
import Derived.Laws.AppendOwnNone
set_option linter.unusedVariables false
set_option maxHeartbeats 16000000
set_option maxRecDepth 100000
section
namespace Go.Proofs.YtpcjbjpofcdjeaaGreatDoor.Ro
open Go Vw Dt Mb
theorem in_range {l : List Rc} {e d : Int} (h : inB l e d = true) : 0 ≤ d ∧ d < 8 := by
 unfold inB at h
 simp only [Bool.and_eq_true, decide_eq_true_eq] at h
 exact h.2
theorem in_out {l : List Rc} {e d : Int} (h : ¬ (0 ≤ d ∧ d < 8)) : inB l e d = false := by
 cases hb : inB l e d with
 | false => rfl
 | true => exact absurd (in_range hb) h
theorem in_nil (e d : Int) : inB [] e d = false := by unfold inB inL; rfl
def memsU (l : List Rc) (e : Int) : Nat → List Int
 | 0 => []
 | n + 1 => memsU l e n ++ if inB l e (n : Int) then [(n : Int)] else []
def memsB (l : List Rc) (e : Int) : List Int := memsU l e 8
theorem memsU_yes {l : List Rc} {e : Int} {n : Nat} (h : inB l e (n : Int) = true) : memsU l e (n + 1) = memsU l e n ++ [(n : Int)] := by rw [memsU, if_pos h]
theorem memsU_no {l : List Rc} {e : Int} {n : Nat} (h : inB l e (n : Int) = false) : memsU l e (n + 1) = memsU l e n := by rw [memsU, if_neg (by rw [h]; decide), List.append_nil]
theorem memsU_len (l : List Rc) (e : Int) : ∀ n, (memsU l e n).length ≤ n
 | 0 => Nat.le_refl _
 | n + 1 => by
  rw [memsU, List.length_append]
  have := memsU_len l e n
  split <;> simp <;> omega
theorem memsU_mem (l : List Rc) (e d : Int) : ∀ n, d ∈ memsU l e n ↔ inB l e d = true ∧ 0 ≤ d ∧ d < (n : Int)
 | 0 => by
  constructor
  ·intro h; cases h
  ·intro h; omega
 | n + 1 => by
  rw [memsU, List.mem_append, memsU_mem l e d n]
  by_cases hb : inB l e (n : Int) = true
  ·rw [if_pos hb, List.mem_singleton]
   constructor
   ·rintro (h | rfl)
    ·exact ⟨h.1, h.2.1, by omega⟩
    ·exact ⟨hb, by omega, by omega⟩
   ·rintro ⟨h1, h2, h3⟩
    by_cases hd : d = (n : Int)
    ·exact .inr hd
    ·exact .inl ⟨h1, h2, by omega⟩
  ·rw [if_neg hb]
   constructor
   ·rintro (h | h)
    ·exact ⟨h.1, h.2.1, by omega⟩
    ·cases h
   ·rintro ⟨h1, h2, h3⟩
    refine .inl ⟨h1, h2, ?_⟩
    have : d ≠ (n : Int) := fun x => hb (by rw [← x]; exact h1)
    omega
theorem mems_mem (l : List Rc) (e d : Int) : d ∈ memsB l e ↔ inB l e d = true := by
 unfold memsB
 rw [memsU_mem]
 constructor
 ·exact fun h => h.1
 ·exact fun h => ⟨h, (in_range h).1, (in_range h).2⟩
theorem mems_len (l : List Rc) (e : Int) : (memsB l e).length ≤ 8 := memsU_len l e 8
def RiseI (l : List Int) : Prop := ∀ i a b, l[i]? = some a → l[i + 1]? = some b → a < b
theorem rise_snocI {l : List Int} {x : Int} (h : RiseI l) (hx : ∀ y ∈ l, y < x) : RiseI (l ++ [x]) := by
 intro i a b ha hb
 have hi := (List.getElem?_eq_some_iff.1 hb).1
 rw [List.length_append, List.length_singleton] at hi
 rw [List.getElem?_append_left (by omega)] at ha
 by_cases hl : i + 1 < l.length
 ·rw [List.getElem?_append_left hl] at hb
  exact h i a b ha hb
 ·rw [List.getElem?_append_right (by omega), show i + 1 - l.length = 0 by omega] at hb
  obtain rfl := Option.some.inj hb
  exact hx a (List.mem_of_getElem? ha)
theorem memsU_rise (l : List Rc) (e : Int) : ∀ n, RiseI (memsU l e n)
 | 0 => fun i a b ha _ => by cases ha
 | n + 1 => by
  rw [memsU]
  split
  ·exact rise_snocI (memsU_rise l e n) fun y hy => ((memsU_mem l e y n).1 hy).2.2
  ·rw [List.append_nil]; exact memsU_rise l e n
theorem mems_rise (l : List Rc) (e : Int) : RiseI (memsB l e) := memsU_rise l e 8
theorem memsU_ext {l l' : List Rc} {e e' : Int} (h : ∀ d, inB l e d = inB l' e' d) : ∀ n, memsU l e n = memsU l' e' n
 | 0 => rfl
 | n + 1 => by rw [memsU, memsU, memsU_ext h n, h]
theorem mems_ext {l l' : List Rc} {e e' : Int} (h : ∀ d, inB l e d = inB l' e' d) : memsB l e = memsB l' e' := memsU_ext h 8
theorem inL_keep : ∀ (l : List Rc) (e d : Int) (b : Bool), (∀ r ∈ l, e < r.seq) → l.foldl (goesIn e d) b = b
 | [], _, _, _, _ => rfl
 | r :: l, e, d, b, h => by
  have hr := h r List.mem_cons_self
  rw [List.foldl_cons, show goesIn e d b r = b by unfold goesIn; rw [if_neg (fun x => by omega)]]
  exact inL_keep l e d b fun x hx => h x (List.mem_cons_of_mem _ hx)
theorem inL_same : ∀ (l : List Rc) (e e' d : Int) (b : Bool), (∀ r ∈ l, (r.seq ≤ e ↔ r.seq ≤ e')) → l.foldl (goesIn e d) b = l.foldl (goesIn e' d) b
 | [], _, _, _, _, _ => rfl
 | r :: l, e, e', d, b, h => by
  have hr := h r List.mem_cons_self
  have hg : goesIn e d b r = goesIn e' d b r := by
   unfold goesIn
   by_cases hs : r.seq ≤ e
   ·have hs' := hr.1 hs
    simp only [hs, hs', true_and]
   ·have hs' : ¬ r.seq ≤ e' := fun x => hs (hr.2 x)
    simp only [hs, hs', false_and, if_false]
  rw [List.foldl_cons, List.foldl_cons, hg]
  exact inL_same l e e' d _ fun x hx => h x (List.mem_cons_of_mem _ hx)
theorem in_same {l : List Rc} {e e' : Int} (h : ∀ r ∈ l, (r.seq ≤ e ↔ r.seq ≤ e')) (d : Int) : inB l e d = inB l e' d := by
 unfold inB inL
 rw [inL_same l e e' d false h]
theorem in_drop {a b : List Rc} {e : Int} (h : ∀ r ∈ b, e < r.seq) (d : Int) : inB (a ++ b) e d = inB a e d := by
 unfold inB inL
 rw [List.foldl_append, inL_keep b e d _ h]
theorem good_seq_mem {l : List Rc} (h : GoodR l) {r : Rc} (hr : r ∈ l) : r.seq ≤ (l.length : Int) := by
 obtain ⟨i, hi⟩ := List.getElem?_of_mem hr
 have h1 := good_seq h hi
 have h2 := (List.getElem?_eq_some_iff.1 hi).1
 omega
theorem good_seq_drop {l : List Rc} (h : GoodR l) {k : Nat} {r : Rc} (hr : r ∈ l.drop k) : (k : Int) < r.seq := by
 obtain ⟨i, hi⟩ := List.getElem?_of_mem hr
 rw [List.getElem?_drop] at hi
 have h1 := good_seq h hi
 omega
theorem in_take {l : List Rc} (h : GoodR l) (k : Nat) (d : Int) : inB l (k : Int) d = inB (l.take k) (k : Int) d := by
 have h1 := in_drop (a := l.take k) (b := l.drop k) (e := (k : Int)) (fun r hr => good_seq_drop h hr) d
 rwa [List.take_append_drop] at h1
theorem in_take_far {l : List Rc} (h : GoodR l) {k : Nat} {e : Int} (he : (k : Int) ≤ e) (d : Int) : inB (l.take k) e d = inB l (k : Int) d := by
 rw [in_take h]
 refine in_same (fun r hr => ?_) d
 have h1 := good_seq_mem (good_take h k) hr
 rw [List.length_take] at h1
 constructor <;> intro <;> omega
theorem in_next {l : List Rc} (h : GoodR l) {k : Nat} {r : Rc} (hr : l[k]? = some r) {d : Int} (h0 : 0 ≤ d) (h8 : d < 8) : inB l ((k + 1 : Nat) : Int) d = if r.dev = d then decide (r.kind = 1) else inB l (k : Int) d := by
 have hs := good_seq h hr
 have hm := (good_may h (List.mem_of_getElem? hr)).1.2.2.2.1
 have h1 := in_take h (k + 1) d
 have e2 : inB (l.take k) ((k + 1 : Nat) : Int) d = inB l (k : Int) d := in_take_far h (by omega) d
 rw [h1, List.take_add_one, hr]
 show inB (l.take k ++ [r]) ((k + 1 : Nat) : Int) d = _
 unfold inB
 rw [inL_snoc]
 unfold goesIn
 by_cases hd : r.dev = d
 ·rw [if_pos ⟨by omega, hd, hm⟩, if_pos hd]
  simp [h0, h8]
 ·rw [if_neg (fun x => hd x.2.1), if_neg hd]
  unfold inB at e2
  exact e2
end Go.Proofs.YtpcjbjpofcdjeaaGreatDoor.Ro
end
section
namespace Go.Proofs.YtpcjbjpofcdjeaaGreatDoor.Ro
open Go Go.RowKit Mm Td Vw Dt
open Mb
attribute [local go_sem] Td.upon_value Td.upon_skip Td.upon_enter Td.upon_row Td.look_tmp Td.look_const Td.look_func Td.look_global
def IL (w : World) (A : Option Addr) (n : Nat) (L : List Int) : Prop :=
 L.length = n ∧ (0 < n → ∃ g o, A = some ⟨g, o, none⟩ ∧ g < w.heap.size ∧ ∀ i x, L[i]? = some x → w.cell? ⟨g, o + i, none⟩ = some (.int .i64 x))
theorem IL.keep {w w' : World} {A : Option Addr} {n : Nat} {L : List Int} (h : IL w A n L) (hg : Gn w w') : IL w' A n L := by
 refine ⟨h.1, fun hn => ?_⟩
 obtain ⟨g, o, e, hl, hc⟩ := h.2 hn
 exact ⟨g, o, e, Nat.lt_of_lt_of_le hl hg.size, fun i x hx => (World.cell?_of_block (a := ⟨g, o + i, none⟩) (hg.block g hl (by simp))).trans (hc i x hx)⟩
theorem IL.none (w : World) (A : Option Addr) : IL w A 0 [] := ⟨rfl, fun h => absurd h (by omega)⟩
theorem il_at {w : World} {g o n : Nat} {L : List Int} (h : IL w (some ⟨g, o, Option.none⟩) n L) {i : Nat} {x : Int} (hx : L[i]? = some x) : g < w.heap.size ∧ w.cell? ⟨g, o + i, Option.none⟩ = some (.int .i64 x) := by
 have hi := (List.getElem?_eq_some_iff.1 hx).1
 obtain ⟨g', o', e, hg, hc⟩ := h.2 (by have := h.1; omega)
 cases e
 exact ⟨hg, hc i x hx⟩
theorem int_inf : (Tryz.prog.info? 3).map (fun i => (i.zero, i.size, i.bytes)) = some (some (.int .i64 0), 1, 8) := by kernel_rfl
theorem int_parts : ∃ i, Tryz.prog.info? 3 = some i ∧ i.zero = some (.int .i64 0) ∧ i.size = 1 ∧ i.bytes = 8 := by
 obtain ⟨i, hi, h⟩ := Option.map_eq_some_iff.1 int_inf
 simp only [Prod.mk.injEq] at h
 exact ⟨i, hi, h.1, h.2.1, h.2.2⟩
def ivs (L : List Int) : List Value := L.map (Value.int .i64)
theorem ivs_one (L : List Int) : ∀ u ∈ ivs L, u.oneCell' = true := by
 intro u hu
 simp only [ivs, List.mem_map] at hu
 obtain ⟨x, _, rfl⟩ := hu
 rfl
theorem one_new (w : World) (x : Int) (t : TypeId) : ∀ j u, (ivs [x])[j]? = some u → (w.alloc (.cells #[.int .i64 x] t)).cell? ((⟨w.heap.size, 0, none⟩ : Addr).add j) = some u := fun j u hu => by
 have hadd : (⟨w.heap.size, 0, none⟩ : Addr).add j = ⟨w.heap.size, j, none⟩ := by unfold Addr.add; split <;> simp_all
 rw [hadd]
 have := cell_of_row _ w.heap.size j #[.int .i64 x] t (0, 0) (heap_alloc_new w _)
 rw [this]
 simpa [ivs] using hu
theorem own_slice1 {w : World} {B : Nat} {e : TypeId} {v : Value} {n : Nat} {xs : List Value} (h : w.ownsRow B e 1 v n xs) : ∃ A m c, v = .slice A m c := by
 rcases h.2 with ⟨rfl, _⟩ | ⟨g, cap, cur, rfl, _⟩
 ·exact ⟨_, _, _, rfl⟩
 ·exact ⟨_, _, _, rfl⟩
theorem own_far1 {w : World} {B : Nat} {e : TypeId} {v : Value} {n : Nat} {xs : List Value} (h : w.ownsRow B e 1 v n xs) : ∀ i, v.ownBlock = some i → B ≤ i := fun i hi => by
 rcases h.2 with ⟨rfl, _⟩ | ⟨g, cap, cur, rfl, hB, _⟩
 ·simp [Value.ownBlock] at hi
 ·simp [Value.ownBlock] at hi; omega
theorem own_il {w : World} {B n : Nat} {t : TypeId} {v : Value} {L : List Int} (h : w.ownsRow B t 1 v n (ivs L)) (hn : L.length = n) : ∃ A c, v = .slice A n c ∧ IL w A n L := by
 have hcells := fun (g : Nat) (hg : v.ownBlock = some g) => World.ownsRow.cells h hg
 rcases h.2 with ⟨rfl, h0⟩ | ⟨g, cap, cur, rfl, hB, hg, hle, _⟩
 ·exact ⟨none, 0, by rw [h0], ⟨hn, fun hp => absurd hp (by omega)⟩⟩
 ·refine ⟨_, cap, rfl, ⟨hn, fun _ => ⟨g, 0, rfl, (Array.getElem?_eq_some_iff.1 hg).1, fun i x hx => ?_⟩⟩⟩
  have := hcells g rfl i (.int .i64 x) (by unfold ivs; rw [List.getElem?_map, hx]; rfl)
  have hadd : (⟨g, 0, none⟩ : Addr).add i = ⟨g, 0 + i, none⟩ := by unfold Addr.add; split <;> simp_all
  rwa [hadd] at this
def IntsIs (L : List Int) (w : World) (e : Ending) (w' : World) : Prop := ∃ A c, e = .returned (.slice A L.length c) ∧ IL w' A L.length L ∧ Gn w w'
theorem in_goes {l : List Rc} {r : Rc} {e d : Int} (h0 : 0 ≤ d) (h8 : d < 8) : inB (l ++ [r]) e d = goesIn e d (inB l e d) r := by
 unfold inB
 rw [inL_snoc, decide_eq_true h0, decide_eq_true h8, Bool.and_self, Bool.and_true, Bool.and_true]
def pres (l : List Rc) (e : Int) : Array Value := #[.bool (inB l e 0), .bool (inB l e 1), .bool (inB l e 2), .bool (inB l e 3), .bool (inB l e 4), .bool (inB l e 5), .bool (inB l e 6), .bool (inB l e 7)]
theorem pres_size (l : List Rc) (e : Int) : (pres l e).size = 8 := rfl
theorem pres_nil (e : Int) : pres [] e = #[.bool false, .bool false, .bool false, .bool false, .bool false, .bool false, .bool false, .bool false] := by
 unfold pres
 simp only [in_nil]
theorem pres_one (l : List Rc) (e : Int) : (pres l e).all (·.oneCell') = true := by simp [pres, Value.oneCell']
theorem pres_keep {l : List Rc} {r : Rc} {e : Int} (h : ¬ (r.seq ≤ e ∧ (0 ≤ r.dev ∧ r.dev < 8) ∧ (r.kind = 1 ∨ r.kind = 2))) : pres (l ++ [r]) e = pres l e := by
 have g : ∀ d : Int, 0 ≤ d → d < 8 → inB (l ++ [r]) e d = inB l e d := fun d h0 h8 => by
  rw [in_goes h0 h8]
  exact goes_out fun k => h ⟨k.1, by rw [k.2.1]; exact ⟨h0, h8⟩, k.2.2⟩
 unfold pres
 rw [g 0 (by decide) (by decide), g 1 (by decide) (by decide), g 2 (by decide) (by decide), g 3 (by decide) (by decide), g 4 (by decide) (by decide), g 5 (by decide) (by decide), g 6 (by decide) (by decide), g 7 (by decide) (by decide)]
theorem pres_set {l : List Rc} {r : Rc} {e : Int} {j : Nat} {q : Bool} (hs : r.seq ≤ e) (hd : r.dev = (j : Int)) (hj : j < 8) (hk : r.kind = 1 ∨ r.kind = 2) (hq : decide (r.kind = 1) = q) : pres (l ++ [r]) e = (pres l e).setIfInBounds j (.bool q) := by
 have g : ∀ d : Int, 0 ≤ d → d < 8 → d ≠ (j : Int) → inB (l ++ [r]) e d = inB l e d := fun d h0 h8 hn => by
  rw [in_goes h0 h8]
  exact goes_out fun k => hn (by rw [← k.2.1, hd])
 have s : inB (l ++ [r]) e (j : Int) = q := by
  rw [in_goes (by omega) (by omega)]
  exact goes_in ⟨hs, hd, hk⟩ hq
 unfold pres
 rcases (show j = 0 ∨ j = 1 ∨ j = 2 ∨ j = 3 ∨ j = 4 ∨ j = 5 ∨ j = 6 ∨ j = 7 by omega) with rfl | rfl | rfl | rfl | rfl | rfl | rfl | rfl
 ·have s : inB (l ++ [r]) e 0 = q := s
  rw [s, g 1 (by decide) (by decide) (by decide), g 2 (by decide) (by decide) (by decide), g 3 (by decide) (by decide) (by decide), g 4 (by decide) (by decide) (by decide), g 5 (by decide) (by decide) (by decide), g 6 (by decide) (by decide) (by decide), g 7 (by decide) (by decide) (by decide)]
  rfl
 ·have s : inB (l ++ [r]) e 1 = q := s
  rw [s, g 0 (by decide) (by decide) (by decide), g 2 (by decide) (by decide) (by decide), g 3 (by decide) (by decide) (by decide), g 4 (by decide) (by decide) (by decide), g 5 (by decide) (by decide) (by decide), g 6 (by decide) (by decide) (by decide), g 7 (by decide) (by decide) (by decide)]
  rfl
 ·have s : inB (l ++ [r]) e 2 = q := s
  rw [s, g 0 (by decide) (by decide) (by decide), g 1 (by decide) (by decide) (by decide), g 3 (by decide) (by decide) (by decide), g 4 (by decide) (by decide) (by decide), g 5 (by decide) (by decide) (by decide), g 6 (by decide) (by decide) (by decide), g 7 (by decide) (by decide) (by decide)]
  rfl
 ·have s : inB (l ++ [r]) e 3 = q := s
  rw [s, g 0 (by decide) (by decide) (by decide), g 1 (by decide) (by decide) (by decide), g 2 (by decide) (by decide) (by decide), g 4 (by decide) (by decide) (by decide), g 5 (by decide) (by decide) (by decide), g 6 (by decide) (by decide) (by decide), g 7 (by decide) (by decide) (by decide)]
  rfl
 ·have s : inB (l ++ [r]) e 4 = q := s
  rw [s, g 0 (by decide) (by decide) (by decide), g 1 (by decide) (by decide) (by decide), g 2 (by decide) (by decide) (by decide), g 3 (by decide) (by decide) (by decide), g 5 (by decide) (by decide) (by decide), g 6 (by decide) (by decide) (by decide), g 7 (by decide) (by decide) (by decide)]
  rfl
 ·have s : inB (l ++ [r]) e 5 = q := s
  rw [s, g 0 (by decide) (by decide) (by decide), g 1 (by decide) (by decide) (by decide), g 2 (by decide) (by decide) (by decide), g 3 (by decide) (by decide) (by decide), g 4 (by decide) (by decide) (by decide), g 6 (by decide) (by decide) (by decide), g 7 (by decide) (by decide) (by decide)]
  rfl
 ·have s : inB (l ++ [r]) e 6 = q := s
  rw [s, g 0 (by decide) (by decide) (by decide), g 1 (by decide) (by decide) (by decide), g 2 (by decide) (by decide) (by decide), g 3 (by decide) (by decide) (by decide), g 4 (by decide) (by decide) (by decide), g 5 (by decide) (by decide) (by decide), g 7 (by decide) (by decide) (by decide)]
  rfl
 ·have s : inB (l ++ [r]) e 7 = q := s
  rw [s, g 0 (by decide) (by decide) (by decide), g 1 (by decide) (by decide) (by decide), g 2 (by decide) (by decide) (by decide), g 3 (by decide) (by decide) (by decide), g 4 (by decide) (by decide) (by decide), g 5 (by decide) (by decide) (by decide), g 6 (by decide) (by decide) (by decide)]
  rfl
end Go.Proofs.YtpcjbjpofcdjeaaGreatDoor.Ro
end
section
namespace Go.Proofs.YtpcjbjpofcdjeaaGreatDoor.Ro
open Go Go.RowKit Mm Td Vw Dt
open Mb
attribute [local go_sem] Td.upon_value Td.upon_skip Td.upon_enter Td.upon_row Td.look_tmp Td.look_const Td.look_func Td.look_global
theorem refMembers_any (A : Option Addr) (n c : Nat) (l : List Rc) (e : Int) (w : World) (hl : LogL w A n l) (hn : n ≤ 1099511627776) :
  Calls Tryz.prog 32 #[.slice A n c, .int .i64 e] w (IntsIs (memsB l e) w) := by
 have HB : Hid (∀ (d : Int) (W : World), Gn w W → Calls Tryz.prog 29 #[.slice A n c, .int .i64 e, .int .i64 d] W fun x w' => x = .returned (.bool (inB l e d)) ∧ W = w') := fun d W hW => refIn_any A n c l e d W (hl.keep hW) hn
 obtain ⟨i0, hi0, hz0, hz1, hz2⟩ := int_parts
 have Hi0 := qj hi0
 have Hz0 := qj hz0
 have Hz1 := qj hz1
 have Hz2 := qj hz2
 clear hl hn hi0 hz0 hz1 hz2
 go_enter Tryz.func32, Tryz.ntmps32
 go_wp2_with fail
 go_loopw [5, 6] (fun lv iv wr => ∃ (k N : Nat), k ≤ 8 ∧ iv = .int .i64 k ∧ Hid ((memsU l e k).length = N) ∧ wr.ownsRow w.heap.size 3 1 lv N (ivs (memsU l e k)) ∧ Gn w wr) (fun _ iv _ => 8 - (intOf iv).toNat)
 case atStart => exact ⟨0, 0, by omega, rfl, rfl, World.ownsRow_nil _ _ _ _, gb_refl _ _⟩
 case round =>
  obtain ⟨k, N, hk, rfl, HN, hown, hg⟩ := hrel
  have HO := qj hown
  have Hg := qj hg
  have Hsz : Hid (w.heap.size ≤ wr.heap.size) := hg.size
  have HN8 : Hid (N ≤ 8) := by have := memsU_len l e k; have := HN.out; show _ ≤ _; omega
  have HC := qj (HB.out (k : Int) wr hg)
  clear hg
  by_cases hlt : k < 8
  ·have d1 : decide ((k : Int) < 8) = true := dcT
   have d1n : decide (k < 8) = true := dcT
   obtain ⟨lA, ln, lc, rfl⟩ := own_slice1 hown
   clear hown
   go_wp2_with fail
   refine HC.out.mono ?_
   rintro x _ ⟨rfl, rfl⟩
   cases hq : inB l e (k : Int) with
   | true =>
    have HQ := qj hq
    clear hq
    go_wp2_with (at_builtin; go_must (refine wpList_append_own _ rfl (.tmp 15) (.tmp 17) 63 rfl w.heap.size 3 i0 (.int .i64 0) 1 8 Tryz.underlying63 Hi0.out Hz0.out Hz1.out Hz2.out rfl (by decide) _ N _ rfl (HO.out.kept (gb_alloc (gb_refl wr none) (.cells #[.int .i64 (k : Int)] 3)) (by cases hv : Value.ownBlock _ <;> simp)) ⟨wr.heap.size, 0, none⟩ 1 1 (ivs [(k : Int)]) rfl rfl (one_new _ _ _) (ivs_one _) (by have := HN8.out; simp only [maxLen]; omega) (by have := HN8.out; omega) (by have := Hsz.out; simp; omega) ?_); intro v2 w2 own2 grow2 _)
    have g2 : Gn w w2 := gb_step (gb_alloc Hg.out _) grow2 (fun i e => .inr (own_far1 HO.out i e))
    have HO2 : Hid (w2.ownsRow w.heap.size 3 1 v2 (N + 1) (ivs (memsU l e (k + 1)))) := by
     have h := own2
     show World.ownsRow _ _ _ _ _ _ _
     rw [memsU_yes HQ.out]
     have e1 : ivs (memsU l e k ++ [(k : Int)]) = ivs (memsU l e k) ++ ivs [(k : Int)] := by simp [ivs]
     rw [e1]
     exact h
    have HN2 : Hid ((memsU l e (k + 1)).length = N + 1) := by show _ = _; rw [memsU_yes HQ.out, List.length_append, HN.out]; rfl
    have Hg2 := qj g2
    clear own2 grow2 g2
    go_roundw
    case rel => exact ⟨k + 1, N + 1, by omega, by go_num, HN2, HO2.out, Hg2.out⟩
    case measure => simp [intOf]; omega
   | false =>
    have HQ := qj hq
    clear hq
    go_wp2_with fail
    go_roundw
    case rel => exact ⟨k + 1, N, by omega, by go_num, by rw [memsU_no HQ.out]; exact HN, by rw [memsU_no HQ.out]; exact HO.out, Hg.out⟩
    case measure => simp [intOf]; omega
  ·have d1 : decide ((k : Int) < 8) = false := dcF
   have d1n : decide (k < 8) = false := dcF
   obtain rfl : k = 8 := by omega
   obtain ⟨A3, c3, rfl, hil⟩ := own_il HO.out HN.out
   have Hil := qj hil
   clear hil
   go_wp2_with fail
   go_ret
   have e1 : (memsB l e).length = N := HN.out
   exact ⟨A3, c3, by rw [e1]; rfl, by rw [e1]; exact Hil.out, Hg.out⟩
end Go.Proofs.YtpcjbjpofcdjeaaGreatDoor.Ro
end
