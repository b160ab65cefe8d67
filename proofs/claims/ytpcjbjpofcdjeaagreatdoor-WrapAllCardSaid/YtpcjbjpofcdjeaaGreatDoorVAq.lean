/- What a wire is, plain; and how memory holds a list of wires. wire.fits, allFit, May. wire.copied, List, Num, Text: wires in new memory. strings.Builder: WriteByte, WriteString at a builder that is used. A wire's bytes: plain. wire.size, putHigh, put, Put. wire.put of lists, Put. The reader: take, number, count. -/
import Derived.Test.YtpcjbjpofcdjeaaGreatDoorBaseq
import Derived.Lib.Hide
import Derived.IntWalk
import Derived.Outline
import Derived.Laws.MakeOwn
import Derived.Test.YtpcjbjpofcdjeaaGreatDoorShelf
import Derived.Lib.AppendZeros
import Derived.Maps.AppendAt
set_option maxHeartbeats 4000000
set_option maxRecDepth 100000
namespace Go.Proofs.YtpcjbjpofcdjeaaGreatDoor.Vw
open Go Go.RowKit Mm
inductive Wr : Type
 | mk (k n : Int) (s : ByteArray) (l : List Wr) : Wr
def Wr.k : Wr → Int | .mk k _ _ _ => k
def Wr.n : Wr → Int | .mk _ n _ _ => n
def Wr.s : Wr → ByteArray | .mk _ _ s _ => s
def Wr.l : Wr → List Wr | .mk _ _ _ l => l
@[simp] theorem Wr.k_mk (k n : Int) (s : ByteArray) (l : List Wr) : (Wr.mk k n s l).k = k := rfl
@[simp] theorem Wr.n_mk (k n : Int) (s : ByteArray) (l : List Wr) : (Wr.mk k n s l).n = n := rfl
@[simp] theorem Wr.s_mk (k n : Int) (s : ByteArray) (l : List Wr) : (Wr.mk k n s l).s = s := rfl
@[simp] theorem Wr.l_mk (k n : Int) (s : ByteArray) (l : List Wr) : (Wr.mk k n s l).l = l := rfl
theorem Wr.eta (x : Wr) : x = .mk x.k x.n x.s x.l := by cases x; rfl
inductive HL (w : World) (B : Nat) : Value → List Wr → Prop
 | nil (A : Option Addr) (c : Nat) : HL w B (.slice A 0 c) []
 | row (g o c : Nat) (l : List Wr) (L : Nat → Value) (hB : B ≤ g) (hg : g < w.heap.size) (hn : l.length ≤ 1099511627776)
   (hk : ∀ i x, l[i]? = some x → w.cell? ⟨g, o + i * 4, none⟩ = some (.int .i64 x.k))
   (hv : ∀ i x, l[i]? = some x → w.cell? ⟨g, o + i * 4 + 1, none⟩ = some (.int .i64 x.n))
   (hs : ∀ i x, l[i]? = some x → w.cell? ⟨g, o + i * 4 + 2, none⟩ = some (.string x.s))
   (hL : ∀ i x, l[i]? = some x → w.cell? ⟨g, o + i * 4 + 3, none⟩ = some (L i))
   (hl : ∀ i x, l[i]? = some x → HL w B (L i) x.l) : HL w B (.slice (some ⟨g, o, none⟩) l.length c) l
theorem cell_of_heap {w w' : World} {a : Addr} (h : w'.heap[a.block]? = w.heap[a.block]?) : w'.cell? a = w.cell? a := World.cell?_of_block h
theorem HL.keep {w w' : World} {B : Nat} {v : Value} {l : List Wr} (h : HL w B v l) (hsz : w.heap.size ≤ w'.heap.size) (hb : ∀ g, B ≤ g → g < w.heap.size → w'.heap[g]? = w.heap[g]?) : HL w' B v l := by
 induction h with
 | nil A c => exact .nil A c
 | row g o c l L hB hg hn hk hv hs hL hl ih =>
  refine .row g o c l L hB (Nat.lt_of_lt_of_le hg hsz) hn ?_ ?_ ?_ ?_ ih
  ·intro i x hx; rw [cell_of_heap (hb g hB hg)]; exact hk i x hx
  ·intro i x hx; rw [cell_of_heap (hb g hB hg)]; exact hv i x hx
  ·intro i x hx; rw [cell_of_heap (hb g hB hg)]; exact hs i x hx
  ·intro i x hx; rw [cell_of_heap (hb g hB hg)]; exact hL i x hx
theorem HL.low {w : World} {B B' : Nat} {v : Value} {l : List Wr} (h : HL w B v l) (hB : B' ≤ B) : HL w B' v l := by
 induction h with
 | nil A c => exact .nil A c
 | row g o c l L hB' hg hn hk hv hs hL hl ih => exact .row g o c l L (by omega) hg hn hk hv hs hL ih
theorem HL.grown {w w' : World} {B : Nat} {v : Value} {l : List Wr} {r : Option Nat} (h : HL w B v l) (hg : w.grownBy w' r) (hr : ∀ i, r = some i → i < B) : HL w' B v l :=
 h.keep hg.size fun g hB hlt => hg.block g hlt (fun e => by have := hr g e.symm; omega)
theorem HL.kept {w w' : World} {B : Nat} {v : Value} {l : List Wr} (h : HL w B v l) (hg : Gn w w') : HL w' B v l := h.grown hg (fun _ e => by cases e)
theorem HL.slice {w : World} {B : Nat} {v : Value} {l : List Wr} (h : HL w B v l) : ∃ A c, v = .slice A l.length c := by
 cases h with
 | nil A c => exact ⟨A, c, rfl⟩
 | row g o c l L => exact ⟨_, c, rfl⟩
theorem HL.len {w : World} {B : Nat} {v : Value} {l : List Wr} (h : HL w B v l) : l.length ≤ 1099511627776 := by
 cases h with
 | nil A c => simp
 | row g o c l L hB hg hn => exact hn
theorem HL.item {w : World} {B : Nat} {A : Option Addr} {n c : Nat} {l : List Wr} (h : HL w B (.slice A n c) l) {i : Nat} {x : Wr} (hi : l[i]? = some x) :
  ∃ g o A2 c2, A = some ⟨g, o, none⟩ ∧ B ≤ g ∧ g < w.heap.size ∧ w.cell? ⟨g, o + i * 4, none⟩ = some (.int .i64 x.k) ∧ w.cell? ⟨g, o + i * 4 + 1, none⟩ = some (.int .i64 x.n) ∧ w.cell? ⟨g, o + i * 4 + 2, none⟩ = some (.string x.s) ∧ w.cell? ⟨g, o + i * 4 + 3, none⟩ = some (.slice A2 x.l.length c2) ∧ HL w B (.slice A2 x.l.length c2) x.l := by
 cases h with
 | nil A c => simp at hi
 | row g o c l L hB hg hn hk hv hs hL hl =>
  have h1 := hl i x hi
  have h2 := hL i x hi
  obtain ⟨A2, c2, he⟩ := h1.slice
  rw [he] at h1 h2
  exact ⟨g, o, A2, c2, rfl, hB, hg, hk i x hi, hv i x hi, hs i x hi, h2, h1⟩
mutual
def Wr.fit (room : Int) : Wr → Bool
 | .mk k n s l =>
  if k = 1 then s.size == 0 && l.length == 0
  else if k = 2 then n == 0 && decide (s.size ≤ 1048576) && l.length == 0
  else if k = 3 then n == 0 && s.size == 0 && decide (0 < room) && (decide (l.length ≤ 65536) && allFit (room - 1) l)
  else false
def allFit (room : Int) : List Wr → Bool
 | [] => true
 | x :: r => x.fit room && allFit room r
end
theorem allFit_cons (room : Int) (x : Wr) (r : List Wr) : allFit room (x :: r) = (x.fit room && allFit room r) := by rw [allFit]
theorem allFit_nil (room : Int) : allFit room [] = true := by rw [allFit]
theorem fit_mk (room k n : Int) (s : ByteArray) (l : List Wr) : (Wr.mk k n s l).fit room = (if k = 1 then s.size == 0 && l.length == 0
  else if k = 2 then n == 0 && decide (s.size ≤ 1048576) && l.length == 0
  else if k = 3 then n == 0 && s.size == 0 && decide (0 < room) && (decide (l.length ≤ 65536) && allFit (room - 1) l)
  else false) := by rw [Wr.fit]
theorem allFit_drop (room : Int) (l : List Wr) (i : Nat) (x : Wr) (h : l[i]? = some x) : allFit room (l.drop i) = (x.fit room && allFit room (l.drop (i + 1))) := by
 obtain ⟨hi, rfl⟩ := List.getElem?_eq_some_iff.1 h
 rw [List.drop_eq_getElem_cons hi, allFit_cons]
def Wr.may (x : Wr) : Bool := x.fit 6
end Go.Proofs.YtpcjbjpofcdjeaaGreatDoor.Vw
namespace Go.Proofs.YtpcjbjpofcdjeaaGreatDoor
open Go.RowKit Mm Vw
theorem ret_bool {a b : Bool} (h : a = b) : Ending.returned (.bool a) = .returned (.bool b) := by rw [h]
theorem cast_zero (n : Nat) : ((n : Int) == 0) = (n == 0) := by
 rw [Bool.eq_iff_iff]; simp
theorem size_zero {s : ByteArray} (h : s.size = 0) : s = ⟨#[]⟩ := by
 obtain ⟨⟨l⟩⟩ := s
 cases l with
 | nil => rfl
 | cons a r => simp [ByteArray.size] at h
theorem list_ne {s : ByteArray} (h : s.size ≠ 0) : s.toList.isEmpty = false := by
 rw [ByteArray.toList_eq, List.isEmpty_eq_false_iff]
 intro e
 exact h (by rw [ByteArray.size, ← Array.length_toList, e]; rfl)
theorem fits_num (n room : Int) (s : ByteArray) (A : Option Addr) (len c : Nat) (w : World) :
  Calls Tryz.prog 156 #[.agg #[.int .i64 1, .int .i64 n, .string s, .slice A len c], .int .i64 room] w fun e w' => e = .returned (.bool (s.size == 0 && len == 0)) ∧ Gn w w' := by
 by_cases hs : s.size = 0
 ·obtain rfl := size_zero hs
  clear hs
  go_enter Tryz.func156, Tryz.ntmps156
  go_wp2_with fail
  go_ret
  exact ⟨ret_bool (cast_zero len), gb_alloc (gb_refl _ _) _⟩
 ·have h1 := list_ne hs
  have h2 : (s.size == 0) = false := by simpa using hs
  rw [h2]
  clear h2 hs
  go_enter Tryz.func156, Tryz.ntmps156
  go_wp2_with fail
  go_ret
  exact ⟨ret_bool (by simp), gb_alloc (gb_refl _ _) _⟩
theorem fits_text (n room : Int) (s : ByteArray) (A : Option Addr) (len c : Nat) (w : World) :
  Calls Tryz.prog 156 #[.agg #[.int .i64 2, .int .i64 n, .string s, .slice A len c], .int .i64 room] w fun e w' => e = .returned (.bool (n == 0 && decide (s.size ≤ 1048576) && len == 0)) ∧ Gn w w' := by
 by_cases hn : n = 0
 ·subst hn
  by_cases hs : s.size ≤ 1048576
  ·have d1 : decide ((s.size : Int) ≤ 1048576) = true := dcT
   have d2 : decide (s.size ≤ 1048576) = true := decide_eq_true hs
   rw [d2]
   clear d2
   go_enter Tryz.func156, Tryz.ntmps156
   go_wp2_with fail
   go_ret
   exact ⟨ret_bool (cast_zero len), gb_alloc (gb_refl _ _) _⟩
  ·have d1 : decide ((s.size : Int) ≤ 1048576) = false := dcF
   have d2 : decide (s.size ≤ 1048576) = false := decide_eq_false hs
   rw [d2]
   clear d2 hs
   go_enter Tryz.func156, Tryz.ntmps156
   go_wp2_with fail
   go_ret
   exact ⟨ret_bool (by simp), gb_alloc (gb_refl _ _) _⟩
 ·have h2 : (n == 0) = false := by simpa using hn
  rw [h2]
  clear hn
  go_enter Tryz.func156, Tryz.ntmps156
  go_wp2_with fail
  go_ret
  exact ⟨ret_bool (by simp), gb_alloc (gb_refl _ _) _⟩
theorem fits_none (k n room : Int) (s : ByteArray) (A : Option Addr) (len c : Nat) (w : World) (h1 : k ≠ 1) (h2 : k ≠ 2) (h3 : k ≠ 3) :
  Calls Tryz.prog 156 #[.agg #[.int .i64 k, .int .i64 n, .string s, .slice A len c], .int .i64 room] w fun e w' => e = .returned (.bool false) ∧ Gn w w' := by
 have t1 : (k == 1) = false := by simpa using h1
 have t2 : (k == 2) = false := by simpa using h2
 have t3 : (k == 3) = false := by simpa using h3
 clear h1 h2 h3
 go_enter Tryz.func156, Tryz.ntmps156
 go_wp2_with fail
 go_ret
 exact ⟨ret_bool (by simp), gb_alloc (gb_refl _ _) _⟩
def headB (n : Int) (s : ByteArray) (room : Int) : Bool := n == 0 && s.size == 0 && decide (0 < room)
theorem fits_listno (n room : Int) (s : ByteArray) (A : Option Addr) (len c : Nat) (w : World) (h : headB n s room = false) :
  Calls Tryz.prog 156 #[.agg #[.int .i64 3, .int .i64 n, .string s, .slice A len c], .int .i64 room] w fun e w' => e = .returned (.bool false) ∧ Gn w w' := by
 unfold headB at h
 by_cases hn : n = 0
 ·subst hn
  by_cases hs : s.size = 0
  ·have d1 : decide (0 < room) = false := by simpa [hs] using h
   obtain rfl := size_zero hs
   clear h hs
   go_enter Tryz.func156, Tryz.ntmps156
   go_wp2_with fail
   go_ret
   exact ⟨ret_bool (by simp), gb_alloc (gb_refl _ _) _⟩
  ·have h1 := list_ne hs
   clear hs h
   go_enter Tryz.func156, Tryz.ntmps156
   go_wp2_with fail
   go_ret
   exact ⟨ret_bool (by simp), gb_alloc (gb_refl _ _) _⟩
 ·have h2 : (n == 0) = false := by simpa using hn
  clear hn h
  go_enter Tryz.func156, Tryz.ntmps156
  go_wp2_with fail
  go_ret
  exact ⟨ret_bool (by simp), gb_alloc (gb_refl _ _) _⟩
theorem allFit_of (l : List Wr) (room : Int) (v : Value) (w : World) (h : HL w 0 v l)
  (ih : ∀ x ∈ l, ∀ (L : Value) (w : World), HL w 0 L x.l → Calls Tryz.prog 156 #[.agg #[.int .i64 x.k, .int .i64 x.n, .string x.s, L], .int .i64 room] w fun e w' => e = .returned (.bool (x.fit room)) ∧ Gn w w') :
  Calls Tryz.prog 174 #[v, .int .i64 room] w fun e w' => e = .returned (.bool (decide (l.length ≤ 65536) && allFit room l)) ∧ Gn w w' := by
 obtain ⟨A, c, rfl⟩ := h.slice
 by_cases hl : l.length ≤ 65536
 ·have d1 : decide ((65536 : Int) < (l.length : Int)) = false := dcF
  have d2 : decide (l.length ≤ 65536) = true := decide_eq_true hl
  rw [d2, Bool.true_and]
  have HH := qj h
  have Hih := qj ih
  clear d2 h ih
  go_enter Tryz.func174, Tryz.ntmps174
  go_wp2_with fail
  go_loopw [12] (fun i wr => ∃ k : Nat, k ≤ l.length ∧ i = .int .i64 k ∧ Hid (allFit room l = allFit room (l.drop k)) ∧ Gn w wr) (fun i _ => l.length - (intOf i).toNat)
  case atStart => exact ⟨0, Nat.zero_le _, rfl, rfl, gb_refl _ _⟩
  case round =>
   obtain ⟨k, hk, rfl, Hf, hg⟩ := hrel
   by_cases hlt : k < l.length
   ·have d3 : decide (k < l.length) = true := decide_eq_true hlt
    obtain ⟨x, hx⟩ : ∃ x, l[k]? = some x := ⟨_, List.getElem?_eq_getElem hlt⟩
    obtain ⟨g, o, A2, c', rfl, _, hgs, c0, c1, c2, c3, hxl⟩ := (HH.out.kept hg).item hx
    have Hx := qj hx
    have Hxl := qj hxl
    clear hx hxl
    go_wp2_with fail
    refine (Hih.out x (List.mem_of_getElem? Hx.out) _ _ (Hxl.out.kept (gb_alloc (gb_refl _ _) _))).mono ?_
    rintro e w2 ⟨rfl, g2⟩
    replace g2 := gb_none (gb_alloc hg _) g2
    have hd := allFit_drop room l k x Hx.out
    cases hfx : x.fit room with
    | true =>
     rw [hfx, Bool.true_and] at hd
     have Hd : Hid (allFit room l = allFit room (l.drop (k + 1))) := Hf.out.trans hd
     clear hd hfx
     go_wp2_with fail
     go_roundw
     case rel => exact ⟨k + 1, by omega, by go_num, Hd, g2⟩
     case measure => simp [intOf]; omega
    | false =>
     rw [hfx, Bool.false_and] at hd
     have Hd : Hid (allFit room l = false) := Hf.out.trans hd
     clear hd hfx
     go_wp2_with fail
     go_ret
     exact ⟨ret_bool Hd.out.symm, g2⟩
   ·have d3 : decide (k < l.length) = false := decide_eq_false hlt
    have Hd : Hid (allFit room l = true) := by
     show _ = _
     rw [Hf.out, List.drop_eq_nil_of_le (by omega), allFit_nil]
    clear hlt
    go_wp2_with fail
    go_ret
    exact ⟨ret_bool Hd.out.symm, hg⟩
 ·have d1 : decide ((65536 : Int) < (l.length : Int)) = true := dcT
  have d2 : decide (l.length ≤ 65536) = false := decide_eq_false hl
  rw [d2, Bool.false_and]
  clear d2 hl h ih
  go_enter Tryz.func174, Tryz.ntmps174
  go_wp2_with fail
  go_ret
  exact ⟨rfl, gb_refl _ _⟩
theorem fits_list (room : Int) (l : List Wr) (hr1 : 0 < room) (hr2 : room ≤ 100) (v : Value) (w : World) (h : HL w 0 v l)
  (ih : ∀ (v : Value) (w : World), HL w 0 v l → Calls Tryz.prog 174 #[v, .int .i64 (room - 1)] w fun e w' => e = .returned (.bool (decide (l.length ≤ 65536) && allFit (room - 1) l)) ∧ Gn w w') :
  Calls Tryz.prog 156 #[.agg #[.int .i64 3, .int .i64 0, .string ⟨#[]⟩, v], .int .i64 room] w fun e w' => e = .returned (.bool (decide (l.length ≤ 65536) && allFit (room - 1) l)) ∧ Gn w w' := by
 obtain ⟨A, c, rfl⟩ := h.slice
 have HH := qj h
 have Hih := qj ih
 have d1 : decide (0 < room) = true := decide_eq_true hr1
 clear h ih
 generalize (decide (l.length ≤ 65536) && allFit (room - 1) l) = r at *
 go_enter Tryz.func156, Tryz.ntmps156
 go_wp2_with fail
 refine (Hih.out _ _ (HH.out.kept (gb_alloc (gb_refl _ _) _))).mono ?_
 rintro e w2 ⟨rfl, g2⟩
 go_wp2_with fail
 go_ret
 exact ⟨rfl, gb_none (gb_alloc (gb_refl _ _) _) g2⟩
theorem fits_any : ∀ (x : Wr) (room : Int), -100 ≤ room → room ≤ 100 → ∀ (L : Value) (w : World), HL w 0 L x.l →
  Calls Tryz.prog 156 #[.agg #[.int .i64 x.k, .int .i64 x.n, .string x.s, L], .int .i64 room] w fun e w' => e = .returned (.bool (x.fit room)) ∧ Gn w w'
 | .mk k n s l, room, hr1, hr2, L, w, hL => by
  have hL' : HL w 0 L l := hL
  obtain ⟨A, c, rfl⟩ := hL'.slice
  show Calls Tryz.prog 156 #[.agg #[.int .i64 k, .int .i64 n, .string s, .slice A l.length c], .int .i64 room] w fun e w' => e = .returned (.bool ((Wr.mk k n s l).fit room)) ∧ Gn w w'
  rw [fit_mk]
  by_cases h1 : k = 1
  ·subst h1; rw [if_pos rfl]; exact fits_num n room s A l.length c w
  by_cases h2 : k = 2
  ·subst h2; rw [if_neg (by decide), if_pos rfl]; exact fits_text n room s A l.length c w
  by_cases h3 : k = 3
  ·subst h3; rw [if_neg (by decide), if_neg (by decide), if_pos rfl]
   cases hb : headB n s room with
   | false =>
    have hb' := hb
    unfold headB at hb'
    rw [hb', Bool.false_and]
    exact fits_listno n room s A l.length c w hb
   | true =>
    have hb' := hb
    unfold headB at hb'
    rw [hb', Bool.true_and]
    simp only [Bool.and_eq_true, beq_iff_eq, decide_eq_true_eq] at hb'
    obtain ⟨⟨rfl, hs⟩, hr⟩ := hb'
    obtain rfl := size_zero hs
    refine fits_list room l hr hr2 _ w hL' (fun v w' hv => allFit_of l (room - 1) v w' hv (fun x hx L w hxl => fits_any x (room - 1) (by omega) (by omega) L w hxl))
  ·rw [if_neg h1, if_neg h2, if_neg h3]; exact fits_none k n room s A l.length c w h1 h2 h3
termination_by x => SizeOf.sizeOf x
decreasing_by
 have := List.sizeOf_lt_of_mem hx
 simp
 omega
theorem may_any (x : Wr) (L : Value) (w : World) (h : HL w 0 L x.l) :
  Calls Tryz.prog 130 #[.agg #[.int .i64 x.k, .int .i64 x.n, .string x.s, L]] w fun e w' => e = .returned (.bool x.may) ∧ Gn w w' := by
 have Hf := qj (fun w hL => fits_any x 6 (by omega) (by omega) L w hL)
 have HH := qj h
 obtain ⟨A, c, rfl⟩ := h.slice
 clear h
 generalize Hm : x.may = r
 have Hm' : x.fit 6 = r := Hm
 rw [Hm'] at Hf
 have Hm2 := qj Hm'
 clear Hm Hm'
 go_enter Tryz.func130, Tryz.ntmps130
 go_wp2_with fail
 refine (Hf.out _ (HH.out.kept (gb_alloc (gb_refl _ _) _))).mono ?_
 rintro e w2 ⟨rfl, g2⟩
 go_wp2_with fail
 go_ret
 exact ⟨rfl, gb_none (gb_alloc (gb_refl _ _) _) g2⟩
end Go.Proofs.YtpcjbjpofcdjeaaGreatDoor
namespace Go.Proofs.YtpcjbjpofcdjeaaGreatDoor
open Go.RowKit Mm Vw
def NewList (w : World) (l : List Wr) (e : Ending) (w' : World) : Prop := ∃ A c, e = .returned (.slice A l.length c) ∧ HL w' w.heap.size (.slice A l.length c) l ∧ Gn w w'
def Part (w : World) (g : Nat) (l : List Wr) (n k : Nat) : Prop :=
 ∃ (cs : Array Value) (L : Nat → Value), Row w g 107 cs ∧ cs.size = n * 4 ∧ ∀ i x, i < k → l[i]? = some x →
  cs[i * 4]? = some (.int .i64 x.k) ∧ cs[i * 4 + 1]? = some (.int .i64 x.n) ∧ cs[i * 4 + 2]? = some (.string x.s) ∧ cs[i * 4 + 3]? = some (L i) ∧ HL w (g + 1) (L i) x.l
theorem Part.lt {w : World} {g : Nat} {l : List Wr} {n k : Nat} (h : Part w g l n k) : g < w.heap.size := by
 obtain ⟨cs, L, hr, _⟩ := h; exact hr.lt
theorem Part.kept {w w' : World} {g : Nat} {l : List Wr} {n k : Nat} (h : Part w g l n k) (hg : Gn w w') : Part w' g l n k := by
 obtain ⟨cs, L, hr, hs, hi⟩ := h
 exact ⟨cs, L, hr.kept hg (by simp), hs, fun i x hik hx => ⟨(hi i x hik hx).1, (hi i x hik hx).2.1, (hi i x hik hx).2.2.1, (hi i x hik hx).2.2.2.1, (hi i x hik hx).2.2.2.2.kept hg⟩⟩
theorem Part.room {w : World} {g : Nat} {l : List Wr} {n k : Nat} (h : Part w g l n k) {j : Nat} (hj : j < n * 4) : (∃ v, w.cell? ⟨g, j, none⟩ = some v) ∧ w.frozen? ⟨g, j, none⟩ = false := by
 obtain ⟨cs, L, hr, hs, _⟩ := h
 refine ⟨?_, hr.free j⟩
 rw [hr.get, Array.getElem?_eq_getElem (by omega)]
 exact ⟨_, rfl⟩
theorem Part.more {w w2 : World} {g : Nat} {l : List Wr} {n k : Nat} {x : Wr} {v : Value} (h : Part w g l n k) (hg : w.grownBy w2 (some g)) (hr2 : ∀ cs, Row w g 107 cs → Row w2 g 107 cs) (hk : k < n) (hx : l[k]? = some x) (hv : HL w2 (g + 1) v x.l) :
  Part ((((w2.setCell ⟨g, k * 4, none⟩ (.int .i64 x.k)).setCell ⟨g, k * 4 + 1, none⟩ (.int .i64 x.n)).setCell ⟨g, k * 4 + 2, none⟩ (.string x.s)).setCell ⟨g, k * 4 + 3, none⟩ v) g l n (k + 1) := by
 obtain ⟨cs, L, hr, hs, hi⟩ := h
 have hrow := ((((hr2 cs hr).set_ (k * 4) (.int .i64 x.k)).set_ (k * 4 + 1) (.int .i64 x.n)).set_ (k * 4 + 2) (.string x.s)).set_ (k * 4 + 3) v
 have hgb : w2.grownBy ((((w2.setCell ⟨g, k * 4, none⟩ (.int .i64 x.k)).setCell ⟨g, k * 4 + 1, none⟩ (.int .i64 x.n)).setCell ⟨g, k * 4 + 2, none⟩ (.string x.s)).setCell ⟨g, k * 4 + 3, none⟩ v) (some g) :=
  gb_then (gb_then (gb_then (gb_set1 _ _ _ _) (gb_set1 _ _ _ _)) (gb_set1 _ _ _ _)) (gb_set1 _ _ _ _)
 refine ⟨_, fun i => if i = k then v else L i, hrow, by simp [hs], fun i y hik hy => ?_⟩
 by_cases hki : i = k
 ·subst hki
  obtain rfl := Option.some.inj (hy.symm.trans hx)
  refine ⟨?_, ?_, ?_, ?_, ?_⟩
  ·rw [Array.getElem?_setIfInBounds, if_neg (by omega), Array.getElem?_setIfInBounds, if_neg (by omega), Array.getElem?_setIfInBounds, if_neg (by omega), Array.getElem?_setIfInBounds, if_pos rfl, if_pos (by omega)]
  ·rw [Array.getElem?_setIfInBounds, if_neg (by omega), Array.getElem?_setIfInBounds, if_neg (by omega), Array.getElem?_setIfInBounds, if_pos rfl, if_pos (by simp only [Array.size_setIfInBounds]; omega)]
  ·rw [Array.getElem?_setIfInBounds, if_neg (by omega), Array.getElem?_setIfInBounds, if_pos rfl, if_pos (by simp only [Array.size_setIfInBounds]; omega)]
  ·simp only [if_true]
   rw [Array.getElem?_setIfInBounds, if_pos rfl, if_pos (by simp only [Array.size_setIfInBounds]; omega)]
  ·simp only [if_true]
   exact hv.grown hgb (fun j e => by cases e; omega)
 ·obtain ⟨h0, h1, h2, h3, h4⟩ := hi i y (by omega) hy
  simp only [Array.getElem?_setIfInBounds, if_neg hki]
  refine ⟨?_, ?_, ?_, ?_, ?_⟩
  ·rw [if_neg (by omega), if_neg (by omega), if_neg (by omega), if_neg (by omega)]; exact h0
  ·rw [if_neg (by omega), if_neg (by omega), if_neg (by omega), if_neg (by omega)]; exact h1
  ·rw [if_neg (by omega), if_neg (by omega), if_neg (by omega), if_neg (by omega)]; exact h2
  ·rw [if_neg (by omega), if_neg (by omega), if_neg (by omega), if_neg (by omega)]; exact h3
  ·exact (h4.grown hg (fun j e => by cases e; omega)).grown hgb (fun j e => by cases e; omega)
theorem Part.done {w : World} {g : Nat} {l : List Wr} {n k : Nat} (h : Part w g l n k) (hn : n = l.length) (hk : n ≤ k) (hl : l.length ≤ 1099511627776) (B : Nat) (hB : B ≤ g) (c : Nat) : HL w B (.slice (some ⟨g, 0, none⟩) l.length c) l := by
 obtain ⟨cs, L, hr, hs, hi⟩ := h
 subst hn
 have hlt : ∀ i x, l[i]? = some x → i < k := fun i x hx => by have := (List.getElem?_eq_some_iff.1 hx).1; omega
 refine .row g 0 c l L hB hr.lt hl ?_ ?_ ?_ ?_ ?_
 ·intro i x hx; rw [Nat.zero_add, hr.get]; exact (hi i x (hlt i x hx) hx).1
 ·intro i x hx; rw [Nat.zero_add, hr.get]; exact (hi i x (hlt i x hx) hx).2.1
 ·intro i x hx; rw [Nat.zero_add, hr.get]; exact (hi i x (hlt i x hx) hx).2.2.1
 ·intro i x hx; rw [Nat.zero_add, hr.get]; exact (hi i x (hlt i x hx) hx).2.2.2.1
 ·intro i x hx; exact (hi i x (hlt i x hx) hx).2.2.2.2.low (by omega)
theorem gb_none' {a w : World} {r : Option Nat} (h : Gn a w) : a.grownBy w r := gb_none (gb_refl a r) h
theorem gb_new4 {a w : World} {g : Nat} (hg : a.heap.size ≤ g) {i0 i1 i2 i3 : Nat} {v0 v1 v2 v3 : Value} (h : Gn a w) : a.grownBy ((((w.setCell ⟨g, i0, none⟩ v0).setCell ⟨g, i1, none⟩ v1).setCell ⟨g, i2, none⟩ v2).setCell ⟨g, i3, none⟩ v3) none :=
 gb_new (gb_new (gb_new (gb_new h (gb_set1 _ _ _ _) hg) (gb_set1 _ _ _ _) hg) (gb_set1 _ _ _ _) hg) (gb_set1 _ _ _ _) hg
theorem Part.new (w : World) (l : List Wr) (n : Nat) (cs : Array Value) (hs : cs.size = n * 4) : Part (w.alloc (.cells cs 107)) w.heap.size l n 0 :=
 ⟨cs, fun _ => .nilIface, Row.new _ _ _, hs, fun i x hi => absurd hi (by omega)⟩
theorem wire_inf : (Tryz.prog.info? 107).map (fun i => (i.zero, i.size, i.bytes)) = some (some (.agg #[.int .i64 0, .int .i64 0, .string ⟨#[]⟩, .slice none 0 0]), 4, 56) := by kernel_rfl
theorem wire_parts : ∃ i, Tryz.prog.info? 107 = some i ∧ i.zero = some (.agg #[.int .i64 0, .int .i64 0, .string ⟨#[]⟩, .slice none 0 0]) ∧ i.size = 4 ∧ i.bytes = 56 := by
 obtain ⟨i, hi, h⟩ := Option.map_eq_some_iff.1 wire_inf
 simp only [Prod.mk.injEq] at h
 exact ⟨i, hi, h.1, h.2.1, h.2.2⟩
def madeW (n : Nat) : Array Value := madeCells #[.int .i64 0, .int .i64 0, .string ⟨#[]⟩, .slice none 0 0] (n * 4)
theorem madeW_size (n : Nat) : (madeW n).size = n * 4 := size_madeCells _ _
theorem makeW_at (n : Nat) (hn : n ≤ 1099511627776) (W : World) : (Instr.makeSlice 105 (.int .i64 (n : Int)) (.int .i64 (n : Int))).run Tryz.prog W = .ok (.slice (some ⟨W.heap.size, 0, none⟩) n n) (W.alloc (.cells (madeW n) 107)) := by
 obtain ⟨i, hi, hz, hs, hb⟩ := wire_parts
 have h := run_make (P := Tryz.prog) W 105 107 i _ Tryz.underlying105 hi hz .i64 .i64 n n (by omega) (by omega) (by rw [hb]; omega) (by omega)
 simpa [hs, Value.cells, madeW] using h
theorem num_any (n : Int) (w : World) : Calls Tryz.prog 109 #[.int .i64 n] w fun e w' => e = .returned (.agg #[.int .i64 1, .int .i64 n, .string ⟨#[]⟩, .slice none 0 0]) ∧ Gn w w' := by
 go_enter Tryz.func109, Tryz.ntmps109
 go_wp2_with fail
 exact bodyPost_ret (v := .agg #[.int .i64 1, .int .i64 n, .string ⟨#[]⟩, .slice none 0 0]) (by simp [results, Tryz.results109, go_sem]) rfl ⟨rfl, gb_alloc (gb_refl _ _) _⟩
theorem text_any (s : ByteArray) (w : World) : Calls Tryz.prog 110 #[.string s] w fun e w' => e = .returned (.agg #[.int .i64 2, .int .i64 0, .string s, .slice none 0 0]) ∧ Gn w w' := by
 go_enter Tryz.func110, Tryz.ntmps110
 go_wp2_with fail
 exact bodyPost_ret (v := .agg #[.int .i64 2, .int .i64 0, .string s, .slice none 0 0]) (by simp [results, Tryz.results110, go_sem]) rfl ⟨rfl, gb_alloc (gb_refl _ _) _⟩
theorem copied_of (l : List Wr) (v : Value) (w : World) (h : HL w 0 v l)
  (ih : ∀ x ∈ l, ∀ (L : Value) (w : World), HL w 0 L x.l → Calls Tryz.prog 141 #[L] w (NewList w x.l)) :
  Calls Tryz.prog 141 #[v] w (NewList w l) := by
 obtain ⟨A, c, rfl⟩ := h.slice
 by_cases hl : l.length = 0
 ·obtain rfl := List.length_eq_zero_iff.1 hl
  clear hl h ih
  go_enter Tryz.func141, Tryz.ntmps141
  go_wp2_with fail
  go_ret
  exact ⟨none, 0, rfl, .nil _ _, gb_refl _ _⟩
 ·have hlen := h.len
  have HH := qj h
  have Hih := qj ih
  have t1 : ((l.length : Int) == 0) = false := by rw [cast_zero]; simpa using hl
  have hmk := makeW_at l.length hlen
  clear hl h ih
  go_enter Tryz.func141, Tryz.ntmps141
  go_wp2_with fail
  go_loopw [14] (fun i wr => ∃ k : Nat, k ≤ l.length ∧ i = .int .i64 k ∧ Hid (Part wr w.heap.size l l.length k) ∧ Gn w wr) (fun i _ => l.length - (intOf i).toNat)
  case atStart => exact ⟨0, Nat.zero_le _, rfl, Part.new _ _ _ _ (madeW_size _), gb_alloc (gb_refl _ _) _⟩
  case round =>
   obtain ⟨k, hk, rfl, Hp, hg⟩ := hrel
   clear hmk t1
   by_cases hlt : k < l.length
   ·have d3 : decide (k < l.length) = true := decide_eq_true hlt
    obtain ⟨x, hx⟩ : ∃ x, l[k]? = some x := ⟨_, List.getElem?_eq_getElem hlt⟩
    obtain ⟨g, o, A2, c', rfl, _, hgs, c0, c1, c2, c3, hxl⟩ := (HH.out.kept hg).item hx
    have Hx := qj hx
    have Hxl := qj hxl
    clear hx hxl
    go_wp2_with fail
    refine (Hih.out x (List.mem_of_getElem? Hx.out) _ _ (Hxl.out.kept (gb_alloc (gb_refl _ _) _))).mono ?_
    rintro e w2 ⟨A3, c4, rfl, hn3, g2⟩
    have g3 := gb_none (gb_alloc hg _) g2
    have hbox : w2.heap[wr.heap.size]? = some (.cells #[.int .i64 x.k, .int .i64 x.n, .string x.s, .slice A2 x.l.length c'] 107 (0, 0)) := (g2.block _ (by simp) (by simp)).trans (heap_alloc_new _ _)
    have b0 := cell_of_row w2 wr.heap.size 0 _ _ _ hbox
    have b1 := cell_of_row w2 wr.heap.size 1 _ _ _ hbox
    have b2 := cell_of_row w2 wr.heap.size 2 _ _ _ hbox
    have b3 := cell_of_row w2 wr.heap.size 3 _ _ _ hbox
    have bf := frozen_of_row w2 wr.heap.size 3 _ _ hbox
    have hp2 := Hp.out.kept (gb_none (gb_alloc (gb_refl wr none) _) g2)
    obtain ⟨⟨v0, p0⟩, f0⟩ := hp2.room (j := k * 4) (by omega)
    obtain ⟨⟨v1, p1⟩, f1⟩ := hp2.room (j := k * 4 + 1) (by omega)
    obtain ⟨⟨v2, p2⟩, f2⟩ := hp2.room (j := k * 4 + 2) (by omega)
    obtain ⟨⟨v3, p3⟩, f3⟩ := hp2.room (j := k * 4 + 3) (by omega)
    have hne : w.heap.size < wr.heap.size := Hp.out.lt
    have Hn3 := qj hn3
    have Hbox := qj hbox
    clear hn3 hbox hp2
    go_wp2_with fail
    have hgB : wr.grownBy (w2.setCell ⟨wr.heap.size, 3, none⟩ (.slice A3 x.l.length c4)) none :=
     gb_step (gb_none (gb_alloc (gb_refl wr none) _) g2) (gb_set1 w2 wr.heap.size 3 _) (fun i e => .inr (by cases e; exact Nat.le_refl _))
    have hnew : HL (w2.setCell ⟨wr.heap.size, 3, none⟩ (.slice A3 x.l.length c4)) (w.heap.size + 1) (.slice A3 x.l.length c4) x.l := by
     refine (Hn3.out.grown (gb_set1 w2 wr.heap.size 3 _) (fun i e => ?_)).low (by simp; omega)
     cases e; simp
    go_roundw
    case rel =>
     refine ⟨k + 1, by omega, by go_num, ?_, ?_⟩
     ·exact Hp.out.more (gb_none' hgB) (fun cs hr => hr.kept hgB (by simp)) hlt Hx.out hnew
     ·exact gb_new4 (Nat.le_refl _) (gb_none hg hgB)
    case measure => simp [intOf]; omega
   ·have d3 : decide (k < l.length) = false := decide_eq_false hlt
    have Hd := qj (Hp.out.done rfl (by omega) hlen w.heap.size (Nat.le_refl _) l.length)
    clear hlt
    go_wp2_with fail
    go_ret
    exact ⟨_, _, rfl, Hd.out, hg⟩
theorem copied_any : ∀ (x : Wr) (v : Value) (w : World), HL w 0 v x.l → Calls Tryz.prog 141 #[v] w (NewList w x.l)
 | .mk _ _ _ l, v, w, h => copied_of l v w h (fun x _hx L w' hL => copied_any x L w' hL)
termination_by x => SizeOf.sizeOf x
decreasing_by
 have := List.sizeOf_lt_of_mem _hx
 simp
 omega
def NewWire (w : World) (x : Wr) (e : Ending) (w' : World) : Prop := ∃ A c, e = .returned (.agg #[.int .i64 x.k, .int .i64 x.n, .string x.s, .slice A x.l.length c]) ∧ HL w' w.heap.size (.slice A x.l.length c) x.l ∧ Gn w w'
theorem box4 {w : World} {b : Nat} {a0 a1 a2 a3 : Value} {T : TypeId} (h : w.heap[b]? = some (.cells #[a0, a1, a2, a3] T (0, 0))) :
  (w.cell? ⟨b, 0, none⟩ = some a0 ∧ w.cell? ⟨b, 1, none⟩ = some a1 ∧ w.cell? ⟨b, 2, none⟩ = some a2 ∧ w.cell? ⟨b, 3, none⟩ = some a3) ∧
  (w.frozen? ⟨b, 0, none⟩ = false ∧ w.frozen? ⟨b, 1, none⟩ = false ∧ w.frozen? ⟨b, 2, none⟩ = false ∧ w.frozen? ⟨b, 3, none⟩ = false) ∧ b < w.heap.size :=
 ⟨⟨cell_of_row w b 0 _ _ _ h, cell_of_row w b 1 _ _ _ h, cell_of_row w b 2 _ _ _ h, cell_of_row w b 3 _ _ _ h⟩, ⟨frozen_of_row w b 0 _ _ h, frozen_of_row w b 1 _ _ h, frozen_of_row w b 2 _ _ h, frozen_of_row w b 3 _ _ h⟩, (Array.getElem?_eq_some_iff.1 h).1⟩
theorem list_any (l : List Wr) (v : Value) (w : World) (h : HL w 0 v l) : Calls Tryz.prog 108 #[v] w (NewWire w (.mk 3 0 ⟨#[]⟩ l)) := by
 have hc := copied_any (.mk 0 0 ⟨#[]⟩ l) v
 have HH := qj h
 have Hc := qj hc
 obtain ⟨A, c, rfl⟩ := h.slice
 clear h hc
 go_enter Tryz.func108, Tryz.ntmps108
 go_wp2_with fail
 refine (Hc.out _ (HH.out.kept (gb_alloc (gb_refl _ _) _))).mono ?_
 rintro e w2 ⟨A3, c4, rfl, hn3, g2⟩
 have g3 := gb_none (gb_alloc (gb_refl w none) _) g2
 obtain ⟨⟨b0, b1, b2, b3⟩, ⟨f0, f1, f2, f3⟩, hb⟩ := box4 (show w2.heap[w.heap.size]? = some (.cells #[.int .i64 0, .int .i64 0, .string ⟨#[]⟩, .slice none 0 0] 107 (0, 0)) from (g2.block _ (by simp) (by simp)).trans (heap_alloc_new _ _))
 have Hn3 := qj hn3
 clear hn3
 go_wp2_with fail
 refine bodyPost_ret (v := .agg #[.int .i64 3, .int .i64 0, .string ⟨#[]⟩, .slice A3 l.length c4]) (by simp [results, Tryz.results108, go_sem, b0, b1, b2, b3]) rfl ?_
 refine ⟨_, _, rfl, ?_, gb_new4 (Nat.le_refl _) g3⟩
 refine ((Hn3.out.grown (gb_then (gb_then (gb_then (gb_set1 _ w.heap.size _ _) (gb_set1 _ _ _ _)) (gb_set1 _ _ _ _)) (gb_set1 _ _ _ _)) (fun i e => ?_)).low (by simp))
 cases e; simp
end Go.Proofs.YtpcjbjpofcdjeaaGreatDoor
namespace Go.Proofs.YtpcjbjpofcdjeaaGreatDoor
open Go.RowKit Wd Mm Vw
theorem byte_inf : (Tryz.prog.info? 5).map (fun i => (i.zero, i.size, i.bytes)) = some (some (.int .u8 0), 1, 1) := by kernel_rfl
theorem byte_parts : ∃ i, Tryz.prog.info? 5 = some i ∧ i.zero = some (.int .u8 0) ∧ i.size = 1 ∧ i.bytes = 1 := by
 obtain ⟨i, hi, h⟩ := Option.map_eq_some_iff.1 byte_inf
 simp only [Prod.mk.injEq] at h
 exact ⟨i, hi, h.1, h.2.1, h.2.2⟩
theorem text_cells (s : ByteArray) : Lib.strCells s = s.data.toList.map w8 := by simp [Lib.strCells, w8]
theorem byte_cells (l : List UInt8) : Lib.byteCells l = l.map w8 := by simp [Lib.byteCells, w8]
def Bd (B b : Nat) (g : Option Nat) (l : List UInt8) (w : World) : Prop :=
 B ≤ b ∧ ∃ v, v.ownBlock = g ∧ w.heap[b]? = some (.cells #[.pointer (some ⟨b, 0, none⟩), v] 168 (0, 0)) ∧ w.ownsRow B 5 1 v (l.map w8).length (l.map w8) ∧ g ≠ some b
def BT (b : Nat) (g g' : Option Nat) (w w' : World) : Prop :=
 w'.os = w.os ∧ w'.tape = w.tape ∧ w'.output = w.output ∧ w.heap.size ≤ w'.heap.size ∧ (∀ i, i < w.heap.size → i ≠ b → some i ≠ g → w'.heap[i]? = w.heap[i]?) ∧ (g' = g ∨ ∃ n, g' = some n ∧ w.heap.size ≤ n)
theorem BT.size {b : Nat} {g g' : Option Nat} {w w' : World} (h : BT b g g' w w') : w.heap.size ≤ w'.heap.size := h.2.2.2.1
theorem BT.block {b : Nat} {g g' : Option Nat} {w w' : World} (h : BT b g g' w w') {i : Nat} (hi : i < w.heap.size) (hb : i ≠ b) (hg : some i ≠ g) : w'.heap[i]? = w.heap[i]? := h.2.2.2.2.1 i hi hb hg
theorem BT.refl (b : Nat) (g : Option Nat) (w : World) : BT b g g w w := ⟨rfl, rfl, rfl, Nat.le_refl _, fun _ _ _ _ => rfl, .inl rfl⟩
theorem BT.trans {b : Nat} {g g' g2 : Option Nat} {w w' w2 : World} (h : BT b g g' w w') (k : BT b g' g2 w' w2) : BT b g g2 w w2 := by
 obtain ⟨h1, h2, h3, h4, h5, h6⟩ := h
 obtain ⟨k1, k2, k3, k4, k5, k6⟩ := k
 refine ⟨k1.trans h1, k2.trans h2, k3.trans h3, Nat.le_trans h4 k4, fun i hi hb hg => ?_, ?_⟩
 ·rw [k5 i (by omega) hb ?_, h5 i hi hb hg]
  rcases h6 with rfl | ⟨n, rfl, hn⟩
  ·exact hg
  ·intro e; cases e; omega
 ·rcases k6 with rfl | ⟨n, rfl, hn⟩
  ·exact h6
  ·exact .inr ⟨n, rfl, by omega⟩
theorem BT.grown {b : Nat} {g g' : Option Nat} {w w' w2 : World} (h : BT b g g' w w') (k : Gn w' w2) : BT b g g' w w2 := by
 refine h.trans ⟨k.os, k.tape, k.output, k.size, fun i hi _ _ => k.block i hi (by simp), .inl rfl⟩
theorem BT.ahead {b : Nat} {g g' : Option Nat} {w w' w2 : World} (k : Gn w w') (h : BT b g g' w' w2) : BT b g g' w w2 :=
 BT.trans ⟨k.os, k.tape, k.output, k.size, fun i hi _ _ => k.block i hi (by simp), .inl rfl⟩ h
theorem BT.below {B b : Nat} {g g' : Option Nat} {w w' : World} (h : BT b g g' w w') (hB : B ≤ b) (hg : ∀ i, g = some i → B ≤ i) (hw : B ≤ w.heap.size) : Below B w w' :=
 ⟨h.1, h.2.1, h.2.2.1, h.size, fun i hi => h.block (by omega) (by omega) (fun e => by have := hg i e.symm; omega)⟩
theorem Bd.kept {B b : Nat} {g : Option Nat} {l : List UInt8} {w w' : World} (h : Bd B b g l w) (hg : Gn w w') : Bd B b g l w' := by
 obtain ⟨hB, v, hv, hb, hown, hne⟩ := h
 refine ⟨hB, v, hv, (hg.block b (Array.getElem?_eq_some_iff.1 hb).1 (by simp)).trans hb, hown.kept hg ?_, hne⟩
 by_cases hv : v.ownBlock = none
 ·exact .inl hv
 ·exact .inr hv
theorem Bd.lt {B b : Nat} {g : Option Nat} {l : List UInt8} {w : World} (h : Bd B b g l w) : b < w.heap.size ∧ ∀ i, g = some i → B ≤ i ∧ i < w.heap.size := by
 obtain ⟨hB, v, rfl, hb, hown, hne⟩ := h
 exact ⟨(Array.getElem?_eq_some_iff.1 hb).1, fun i hi => hown.lt i hi⟩
theorem Bd.of {B b : Nat} {l : List UInt8} {w : World} (h : Lib.BuilderAt 168 5 B b (.pointer (some ⟨b, 0, none⟩)) (l.map w8) w) : ∃ g, Bd B b g l w := by
 obtain ⟨hB, v, hb, hown, hne⟩ := h
 exact ⟨v.ownBlock, hB, v, rfl, hb, hown, hne⟩
theorem Bd.back {B b : Nat} {g : Option Nat} {l : List UInt8} {w : World} (h : Bd B b g l w) : Lib.BuilderAt 168 5 B b (.pointer (some ⟨b, 0, none⟩)) (l.map w8) w := by
 obtain ⟨hB, v, rfl, hb, hown, hne⟩ := h
 exact ⟨hB, v, hb, hown, hne⟩
def Wrote (B b : Nat) (g : Option Nat) (w : World) (l : List UInt8) (r : Value) (e : Ending) (w' : World) : Prop := e = .returned r ∧ ∃ g', Bd B b g' l w' ∧ BT b g g' w w'
theorem check_used (b : Nat) (w : World) (h : w.cell? ⟨b, 0, none⟩ = some (.pointer (some ⟨b, 0, none⟩))) :
  Calls Tryz.prog 157 #[.pointer (some ⟨b, 0, none⟩)] w fun e w' => e = .returned (.tuple #[]) ∧ w = w' := by
 obtain ⟨j, hj, _⟩ := Option.map_eq_some_iff.1 (show (Tryz.prog.info? 168).map (·.size) = some 2 by kernel_rfl)
 go_enter Tryz.func157, Tryz.ntmps157
 go_wp2_with fail
 rw [Lib.run_neq_ptr_same w _ Tryz.underlying166 hj]
 go_wp2_with fail
 go_end0
 exact ⟨rfl, rfl⟩
theorem own_slice {w : World} {B : Nat} {e : TypeId} {v : Value} {n : Nat} {xs : List Value} (h : w.ownsRow B e 1 v n xs) : ∃ A m c, v = .slice A m c := by
 rcases h.2 with ⟨rfl, _⟩ | ⟨g, cap, cur, rfl, _⟩
 ·exact ⟨_, _, _, rfl⟩
 ·exact ⟨_, _, _, rfl⟩
theorem built_block {w w' : World} {b : Nat} {p v : Value} {o : Obj} (hne : v.ownBlock ≠ some b) (hb : w.heap[b]? = some (.cells #[p, v] 168 (0, 0))) (hbl : b < w.heap.size) (hg : (w.alloc o).grownBy w' v.ownBlock) : w'.heap[b]? = some (.cells #[p, v] 168 (0, 0)) :=
 (hg.block b (by simp; omega) (fun e => hne e.symm)).trans ((Below.heap_alloc w _ b hbl).trans hb)
theorem built_cell {w w' : World} {b : Nat} {p v : Value} {o : Obj} (hne : v.ownBlock ≠ some b) (hb : w.heap[b]? = some (.cells #[p, v] 168 (0, 0))) (hbl : b < w.heap.size) (hg : (w.alloc o).grownBy w' v.ownBlock) : w'.cell? ⟨b, 1, none⟩ = some v :=
 cell_of_row w' b 1 _ _ _ (built_block hne hb hbl hg)
theorem built_free {w w' : World} {b : Nat} {p v : Value} {o : Obj} (hne : v.ownBlock ≠ some b) (hb : w.heap[b]? = some (.cells #[p, v] 168 (0, 0))) (hbl : b < w.heap.size) (hg : (w.alloc o).grownBy w' v.ownBlock) : w'.frozen? ⟨b, 1, none⟩ = false :=
 frozen_of_row w' b 1 _ _ (built_block hne hb hbl hg)
theorem one_byte (w : World) (n : Int) : ∀ (j : Nat) (u : Value), [Value.int .u8 n][j]? = some u → (w.alloc (.cells #[.int .u8 n] 5)).cell? ((⟨w.heap.size, 0, none⟩ : Addr).add j) = some u := by
 intro j u hj
 cases j with
 | succ j => simp at hj
 | zero =>
  obtain rfl : Value.int .u8 n = u := by simpa using hj
  exact cell_of_row _ _ 0 #[.int .u8 n] 5 (0, 0) (heap_alloc_new _ _)
theorem one_small1 (n : Int) : ∀ u ∈ [Value.int .u8 n], u.oneCell' = true := by
 intro u hu
 rw [List.mem_singleton.1 hu]; rfl
theorem res_inj {a b : Value} {x y : World} (h : Result.ok a x = Result.ok b y) : a = b := by injection h
theorem text_loc {w w' : World} {B : Nat} {v v' : Value} {n : Nat} {xs : List Value} {s : ByteArray} (hown : w.ownsRow B 5 1 v n xs) (hn : n + s.size ≤ 140737488355328)
  (hrun : (Builtin.append_ #[54, 9] 54 #[v, .string s]).run Tryz.prog w = .ok v' w') (hn0 : v' = .slice none 0 0 ↔ v = .slice none 0 0 ∧ s.size = 0) : v'.ownBlock = v.ownBlock ∨ v'.ownBlock = some w.heap.size := by
 obtain ⟨i, hi, hz, hs1, hs2⟩ := byte_parts
 rcases hown.2 with ⟨rfl, rfl⟩ | ⟨g, cap, cur, rfl, hbg, hg, hnc, hcm, hcs, htake⟩
 ·by_cases hm : s.size = 0
  ·left; rw [hn0.2 ⟨rfl, hm⟩]
  ·right
   have h := run_append_nil_string (P := Tryz.prog) w 54 9 54 5 i (.int .u8 0) Tryz.underlying54 Tryz.underlying9 hi hz s (by omega) (by omega) (by rw [hs2]; omega)
   exact congrArg Value.ownBlock (res_inj (h.symm.trans hrun)).symm
 ·by_cases hroom : n + s.size ≤ cap
  ·left
   have h := Lib.run_append_room_string (P := Tryz.prog) w 54 9 54 5 i Tryz.underlying54 Tryz.underlying9 hi hs1 g n cap cur hg s hroom (by omega)
   rw [← res_inj (h.symm.trans hrun)]; rfl
  ·right
   have h := Lib.run_append_grow_string (P := Tryz.prog) w 54 9 54 5 i (.int .u8 0) Tryz.underlying54 Tryz.underlying9 hi hz ⟨g, 0, none⟩ n cap xs (by rw [hs1]; exact hown.1) (hown.cells (g := g) rfl) s (by omega) (by omega) (by rw [hs2]; have := growslice_fits (bytes := 1) (need := n + s.size) (old := cap) (by omega) (by omega); exact this)
   exact congrArg Value.ownBlock (res_inj (h.symm.trans hrun)).symm
theorem wrote_of {B b : Nat} {w w' : World} {v v' : Value} {l : List UInt8} (hB : B ≤ b) (hb : w.heap[b]? = some (.cells #[.pointer (some ⟨b, 0, none⟩), v] 168 (0, 0))) (hne : v.ownBlock ≠ some b)
  (hown : w'.ownsRow B 5 1 v' (l.map w8).length (l.map w8)) (hg : w.grownBy w' v.ownBlock) (hloc : v'.ownBlock = v.ownBlock ∨ ∃ n, v'.ownBlock = some n ∧ w.heap.size ≤ n) :
  ∃ g', Bd B b g' l (w'.setCell ⟨b, 1, none⟩ v') ∧ BT b v.ownBlock g' w (w'.setCell ⟨b, 1, none⟩ v') := by
 have hbl := (Array.getElem?_eq_some_iff.1 hb).1
 have hb' : w'.heap[b]? = some (.cells #[.pointer (some ⟨b, 0, none⟩), v] 168 (0, 0)) := (hg.block b hbl (fun e => hne e.symm)).trans hb
 have hset := heap_setCell_same w' b 1 _ _ v' hb'
 have hgs := gb_set1 w' b 1 v'
 have hne' : v'.ownBlock ≠ some b := by
  rcases hloc with h | ⟨n, h, hn⟩
  ·rw [h]; exact hne
  ·rw [h]; intro e; have := Option.some.inj e; omega
 refine ⟨v'.ownBlock, ⟨hB, v', rfl, hset, hown.kept hgs (.inr hne'), hne'⟩, ?_⟩
 refine ⟨hg.os, hg.tape, hg.output, Nat.le_trans hg.size hgs.size, fun i hi hib hig => ?_, hloc⟩
 rw [hgs.block i (by have := hg.size; omega) (fun e => hib (Option.some.inj e))]
 exact hg.block i hi hig
theorem writeString_any (B b : Nat) (g : Option Nat) (l : List UInt8) (s : ByteArray) (w : World) (h : Bd B b g l w) (hlen : l.length + s.size ≤ 140737488355328) (hBw : B ≤ w.heap.size) :
  Calls Tryz.prog 161 #[.pointer (some ⟨b, 0, none⟩), .string s] w (Wrote B b g w (l ++ s.data.toList) (.tuple #[.int .i64 s.size, .nilIface])) := by
 obtain ⟨hB, v, rfl, hb, hown, hne⟩ := h
 obtain ⟨i, hi, hz, hs1, hs2⟩ := byte_parts
 have hc0 : w.cell? ⟨b, 0, none⟩ = some (.pointer (some ⟨b, 0, none⟩)) := cell_of_row w b 0 _ _ _ hb
 have hc1 : w.cell? ⟨b, 1, none⟩ = some v := cell_of_row w b 1 _ _ _ hb
 obtain ⟨v', w', hrun, hown', hgrow, hnn⟩ := Lib.run_append_own_string (P := Tryz.prog) w B 54 9 54 5 i Tryz.underlying54 Tryz.underlying9 hi hz hs1 hs2 v _ _ hown s (by simp only [maxLen]; simp; omega) (by simpa using hlen) hBw
 have hloc := text_loc hown (by simpa using hlen) hrun hnn
 obtain ⟨vA, vn, vc, rfl⟩ := own_slice hown'
 have hb' : w'.heap[b]? = some (.cells #[.pointer (some ⟨b, 0, none⟩), v] 168 (0, 0)) := (hgrow.block b (Array.getElem?_eq_some_iff.1 hb).1 (fun e => hne e.symm)).trans hb
 have hc1' : w'.cell? ⟨b, 1, none⟩ = some v := cell_of_row w' b 1 _ _ _ hb'
 have hf1' : w'.frozen? ⟨b, 1, none⟩ = false := frozen_of_row w' b 1 _ _ hb'
 have Hfin : Hid (∃ g', Bd B b g' (l ++ s.data.toList) (w'.setCell ⟨b, 1, none⟩ (.slice vA vn vc)) ∧ BT b v.ownBlock g' w (w'.setCell ⟨b, 1, none⟩ (.slice vA vn vc))) := by
  refine wrote_of hB hb hne ?_ hgrow (hloc.imp id fun h => ⟨_, h, Nat.le_refl _⟩)
  have e1 : (l ++ s.data.toList).map w8 = l.map w8 ++ Lib.strCells s := by rw [List.map_append, text_cells]
  rw [e1]
  have e2 : (l.map w8 ++ Lib.strCells s).length = (l.map w8).length + s.size := by simpa using hown'.1
  rw [e2]
  exact hown'
 have Hrun := qj hrun
 clear hrun hb' hown' hgrow hb hi hz hs1 hs2 hown hloc hnn
 go_enter Tryz.func161, Tryz.ntmps161
 go_wp2_with fail
 refine (check_used b _ hc0).mono ?_
 rintro e w1 ⟨rfl, rfl⟩
 go_wp2_with (at_builtin; refine Lib.wpList_append_run _ rfl (.tmp 12) (.tmp 13) 54 9 rfl _ _ rfl rfl _ _ Hrun.out ?_)
 go_ret2
 exact ⟨rfl, Hfin.out⟩
theorem writeByte_any (B b : Nat) (g : Option Nat) (l : List UInt8) (y : UInt8) (n : Int) (hn : n = (y.toNat : Int)) (w : World) (h : Bd B b g l w) (hlen : l.length + 1 ≤ 140737488355328) (hBw : B ≤ w.heap.size) :
  Calls Tryz.prog 159 #[.pointer (some ⟨b, 0, none⟩), .int .u8 n] w (Wrote B b g w (l ++ [y]) .nilIface) := by
 obtain ⟨hB, v, rfl, hb, hown, hne⟩ := h
 obtain ⟨i, hi, hz, hs1, hs2⟩ := byte_parts
 have hc0 : w.cell? ⟨b, 0, none⟩ = some (.pointer (some ⟨b, 0, none⟩)) := cell_of_row w b 0 _ _ _ hb
 have hc1 : w.cell? ⟨b, 1, none⟩ = some v := cell_of_row w b 1 _ _ _ hb
 have hbl : b < w.heap.size := (Array.getElem?_eq_some_iff.1 hb).1
 have hown1 := hown.alloc (.cells #[.int .u8 n] 5)
 have Hi := qj hi
 have Hz := qj hz
 have Hs1 := qj hs1
 have Hs2 := qj hs2
 have Hb := qj hb
 have Hown1 := qj hown1
 have Hn := qj hn
 clear hi hz hs1 hs2 hb hown hown1 hn
 go_enter Tryz.func159, Tryz.ntmps159
 go_wp2_with fail
 refine (check_used b _ hc0).mono ?_
 rintro e w1 ⟨rfl, rfl⟩
 go_wp2_with (at_builtin; refine wpList_append_own_at _ rfl (.tmp 11) (.tmp 13) 54 rfl B 5 i (.int .u8 0) 1 1 Tryz.underlying54 Hi.out Hz.out Hs1.out Hs2.out rfl (by decide) _ (l.map w8).length _ rfl Hown1.out ⟨w.heap.size, 0, none⟩ 1 1 [.int .u8 n] rfl rfl (one_byte w n) (one_small1 n) (by simp only [maxLen]; simp; omega) (by simp; omega) (by simp; omega) ?_; intro v' w' own' grow' _ hloc; obtain ⟨vA, vn, vc, rfl⟩ := own_slice own'; have hc1' := built_cell hne Hb.out hbl grow'; have hf1' := built_free hne Hb.out hbl grow')
 have Hown' := qj own'
 have Hgrow := qj grow'
 clear own' grow'
 go_ret
 refine ⟨rfl, ?_⟩
 have e1 : (l ++ [y]).map w8 = l.map w8 ++ [.int .u8 n] := by rw [List.map_append, Hn.out]; rfl
 obtain ⟨g', h1, h2⟩ := wrote_of (l := l ++ [y]) hB (w := w.alloc (.cells #[.int .u8 n] 5)) ((Below.heap_alloc w _ b hbl).trans Hb.out) hne (by rw [e1, List.length_append]; exact Hown'.out) Hgrow.out (hloc.imp id fun h => ⟨_, h, Nat.le_refl _⟩)
 exact ⟨g', h1, BT.ahead (gb_alloc (gb_refl _ _) _) h2⟩
end Go.Proofs.YtpcjbjpofcdjeaaGreatDoor
namespace Go.Proofs.YtpcjbjpofcdjeaaGreatDoor.Vw
open Go Go.RowKit Mm Wd
def hiB (n : Int) (j : Nat) : UInt8 := UInt8.ofNat ((n / 2 ^ (8 * j)) % 256).toNat
def highs (n : Int) : Nat → List UInt8
 | 0 => []
 | j + 1 => hiB n j :: highs n j
theorem highs_len (n : Int) (j : Nat) : (highs n j).length = j := by
 induction j with
 | zero => rfl
 | succ j ih => simp [highs, ih]
theorem hiB_nat (n : Int) (j : Nat) : ((hiB n j).toNat : Int) = (n / 2 ^ (8 * j)) % 256 := by
 unfold hiB
 have h1 := Int.emod_nonneg (n / 2 ^ (8 * j)) (show (256 : Int) ≠ 0 by decide)
 have h2 := Int.emod_lt_of_pos (n / 2 ^ (8 * j)) (show (0 : Int) < 256 by decide)
 rw [UInt8.toNat_ofNat', Nat.mod_eq_of_lt (by omega)]
 omega
mutual
def Wr.enc : Wr → List UInt8
 | .mk k n s l => UInt8.ofNat (k % 256).toNat :: (if k = 1 then highs n 8 else if k = 2 then highs s.size 4 ++ s.data.toList else highs l.length 4 ++ encs l)
def encs : List Wr → List UInt8
 | [] => []
 | x :: r => x.enc ++ encs r
end
theorem enc_mk (k n : Int) (s : ByteArray) (l : List Wr) : (Wr.mk k n s l).enc = UInt8.ofNat (k % 256).toNat :: (if k = 1 then highs n 8 else if k = 2 then highs s.size 4 ++ s.data.toList else highs l.length 4 ++ encs l) := by rw [Wr.enc]
theorem encs_cons (x : Wr) (r : List Wr) : encs (x :: r) = x.enc ++ encs r := by rw [encs]
theorem encs_nil : encs [] = [] := by rw [encs]
theorem encs_take (l : List Wr) (i : Nat) (x : Wr) (h : l[i]? = some x) : encs (l.take (i + 1)) = encs (l.take i) ++ x.enc := by
 obtain ⟨hi, rfl⟩ := List.getElem?_eq_some_iff.1 h
 induction l generalizing i with
 | nil => simp at hi
 | cons y r ih =>
  cases i with
  | zero => simp [encs_cons, encs_nil]
  | succ i =>
   have hi' : i < r.length := by simpa using hi
   simp only [List.take_succ_cons, encs_cons, List.append_assoc, List.getElem_cons_succ]
   rw [ih i hi' (List.getElem?_eq_getElem hi')]
theorem encs_part (l : List Wr) (i : Nat) (x : Wr) (h : l[i]? = some x) : (encs (l.take i)).length + x.enc.length ≤ (encs l).length := by
 have h1 := encs_take l i x h
 have h2 : (encs l).length = (encs (l.take (i + 1))).length + (encs (l.drop (i + 1))).length := by
  have : ∀ a b, encs (a ++ b) = encs a ++ encs b := by
   intro a b
   induction a with
   | nil => simp [encs_nil]
   | cons y r ih => simp [encs_cons, ih]
  rw [← List.length_append, ← this, List.take_append_drop]
 rw [h2, h1, List.length_append]
 omega
def Wr.bytes (x : Wr) : ByteArray := if x.may then ⟨x.enc.toArray⟩ else ⟨#[]⟩
def beN (l : List UInt8) : Nat := l.foldl (fun a c => a * 256 + c.toNat) 0
def valI (l : List UInt8) : Int := wrap64 (beN l : Int)
end Go.Proofs.YtpcjbjpofcdjeaaGreatDoor.Vw
namespace Go.Proofs.YtpcjbjpofcdjeaaGreatDoor
open Go.RowKit Wd Mm Vw
theorem putHigh_any (B b : Nat) (g : Option Nat) (l : List UInt8) (n : Int) (K : Nat) (hK : K ≤ 8) (w : World) (h : Bd B b g l w) (hlen : l.length + 8 ≤ 140737488355328) (hBw : B ≤ w.heap.size) :
  Calls Tryz.prog 160 #[.pointer (some ⟨b, 0, none⟩), .int .i64 n, .int .i64 (K : Int)] w (Wrote B b g w (l ++ highs n K) (.tuple #[])) := by
 have HH := qj h
 clear h
 go_enter Tryz.func160, Tryz.ntmps160
 go_wp2_with fail
 go_loopw [6] (fun sh wr => ∃ (j : Nat) (p : List UInt8) (g' : Option Nat), j ≤ K ∧ sh = .int .i64 (8 * ((j : Int) - 1)) ∧ Hid (p ++ highs n j = highs n K) ∧ Hid (Bd B b g' (l ++ p) wr) ∧ Hid (BT b g g' w wr)) (fun sh _ => (8 + intOf sh).toNat)
 case atStart => exact ⟨K, [], g, Nat.le_refl _, by go_num, rfl, (show Bd B b g (l ++ []) w by rw [List.append_nil]; exact HH.out), BT.refl _ _ _⟩
 case round =>
  obtain ⟨j, p, g', hj, rfl, Hp, Hb, Ht⟩ := hrel
  by_cases hj0 : j = 0
  ·subst hj0
   go_wp2_with fail
   go_end0
   refine ⟨rfl, g', ?_, Ht.out⟩
   have := Hp.out
   rw [highs, List.append_nil] at this
   rw [← this]
   exact Hb.out
  ·have d1 : decide ((0 : Int) ≤ 8 * ((j : Int) - 1)) = true := dcT
   go_wp2_with fail
   have hpl : p.length + 1 ≤ 8 := by
    have := congrArg List.length Hp.out
    rw [List.length_append, highs_len, highs_len] at this
    omega
   refine (writeByte_any B b g' (l ++ p) (hiB n (j - 1)) _ (hiB_nat n (j - 1)).symm wr Hb.out (by rw [List.length_append]; omega) (by have := Ht.out.size; omega)).mono ?_
   rintro e w2 ⟨rfl, g2, hb2, ht2⟩
   have Hp2 : Hid ((p ++ [hiB n (j - 1)]) ++ highs n (j - 1) = highs n K) := by
    show _ = _
    rw [← Hp.out, List.append_assoc]
    obtain ⟨i, rfl⟩ : ∃ i, j = i + 1 := ⟨j - 1, by omega⟩
    rfl
   have Hb2 : Hid (Bd B b g2 (l ++ (p ++ [hiB n (j - 1)])) w2) := by
    show Bd _ _ _ _ _
    rw [← List.append_assoc]; exact hb2
   have Ht2 := qj (Ht.out.trans ht2)
   clear hb2 ht2 Hp Hb Ht
   go_wp2_with fail
   go_roundw
   case rel => exact ⟨j - 1, p ++ [hiB n (j - 1)], g2, by omega, by go_num, Hp2, Hb2, Ht2⟩
   case measure => simp [intOf]; omega
theorem HL.below {w0 w : World} {v : Value} {l : List Wr} (h : HL w0 0 v l) (hb : Below w0.heap.size w0 w) : HL w 0 v l := h.keep hb.size (fun g _ hg => hb.block g hg)
theorem size_of (k n : Int) (s : ByteArray) (l : List Wr) (hk : k = 1 ∨ k = 2 ∧ l = [] ∨ k = 3 ∧ s = ⟨#[]⟩) (hb : (Wr.mk k n s l).enc.length ≤ 1099511627776) (L : Value) (w : World) (h : HL w 0 L l)
  (ih : ∀ x ∈ l, ∀ (L : Value) (w : World), HL w 0 L x.l → Calls Tryz.prog 132 #[.agg #[.int .i64 x.k, .int .i64 x.n, .string x.s, L]] w fun e w' => e = .returned (.int .i64 x.enc.length) ∧ Gn w w') :
  Calls Tryz.prog 132 #[.agg #[.int .i64 k, .int .i64 n, .string s, L]] w fun e w' => e = .returned (.int .i64 (Wr.mk k n s l).enc.length) ∧ Gn w w' := by
 obtain ⟨A, c, rfl⟩ := h.slice
 rw [enc_mk] at hb ⊢
 by_cases h1 : k = 1
 ·subst h1
  rw [if_pos rfl]
  have hl9 : (UInt8.ofNat ((1 : Int) % 256).toNat :: highs n 8).length = 9 := by rw [List.length_cons, highs_len]
  rw [hl9]
  clear hl9 hb h ih hk
  go_enter Tryz.func132, Tryz.ntmps132
  go_wp2_with fail
  go_ret
  exact ⟨rfl, gb_alloc (gb_refl _ _) _⟩
 ·have t1 : (k == 1) = false := by simpa using h1
  have HT : Hid ((UInt8.ofNat (k % 256).toNat :: (if k = 1 then highs n 8 else if k = 2 then highs s.size 4 ++ s.data.toList else highs l.length 4 ++ encs l)).length = 5 + s.size + (encs l).length) := by
   show _ = _
   rw [if_neg h1]
   rcases hk with hk | ⟨rfl, rfl⟩ | ⟨rfl, rfl⟩
   ·exact absurd hk h1
   ·simp [highs_len, encs_nil]; omega
   ·have e0 : (⟨#[]⟩ : ByteArray).size = 0 := rfl
    rw [e0]; simp [highs_len]; omega
  have hlen := h.len
  rw [HT.out] at hb ⊢
  have HH := qj h
  have Hih := qj ih
  clear HT h1 hk h ih
  obtain ⟨N, HN⟩ : ∃ N : Nat, Hid (N = (encs l).length) := ⟨_, rfl⟩
  rw [← HN.out] at hb ⊢
  go_enter Tryz.func132, Tryz.ntmps132
  go_wp2_with fail
  go_loopw [16, 3] (fun i m wr => ∃ (j q : Nat), j ≤ l.length ∧ i = .int .i64 j ∧ m = .int .i64 (5 + s.size + q : Nat) ∧ Hid (q = (encs (l.take j)).length) ∧ q ≤ N ∧ Gn w wr) (fun i _ _ => l.length - (intOf i).toNat)
  case atStart => exact ⟨0, 0, Nat.zero_le _, rfl, by go_num, (by show _ = _; simp [encs_nil]), Nat.zero_le _, gb_alloc (gb_refl _ _) _⟩
  case round =>
   obtain ⟨j, q, hj, rfl, rfl, Hq, hq, hg⟩ := hrel
   by_cases hlt : j < l.length
   ·have d3 : decide (j < l.length) = true := decide_eq_true hlt
    obtain ⟨x, hx⟩ : ∃ x, l[j]? = some x := ⟨_, List.getElem?_eq_getElem hlt⟩
    obtain ⟨g, o, A2, c', rfl, _, hgs, c0, c1, c2, c3, hxl⟩ := (HH.out.kept hg).item hx
    have Hx := qj hx
    have Hxl := qj hxl
    have hqx : q + x.enc.length ≤ N := by rw [Hq.out, HN.out]; exact encs_part l j x hx
    clear hx hxl
    go_wp2_with fail
    refine (Hih.out x (List.mem_of_getElem? Hx.out) _ _ (Hxl.out.kept (gb_alloc (gb_refl _ _) _))).mono ?_
    rintro e w2 ⟨rfl, g2⟩
    replace g2 := gb_none (gb_alloc hg _) g2
    have Hq2 : Hid (q + x.enc.length = (encs (l.take (j + 1))).length) := by
     show _ = _
     rw [encs_take l j x Hx.out, List.length_append, Hq.out]
    clear Hq
    generalize x.enc.length = m at *
    go_wp2_with fail
    go_roundw
    case rel => exact ⟨j + 1, q + m, by omega, by go_num, by go_num, Hq2, hqx, g2⟩
    case measure => simp [intOf]; omega
   ·have d3 : decide (j < l.length) = false := decide_eq_false hlt
    have Hd : Hid (q = N) := by
     show _ = _
     rw [Hq.out, HN.out, List.take_of_length_le (by omega)]
    clear hlt
    go_wp2_with fail
    go_ret
    rw [Hd.out]
    exact ⟨rfl, hg⟩
theorem all_fit {room : Int} {l : List Wr} (h : allFit room l = true) : ∀ x ∈ l, x.fit room = true := by
 induction l with
 | nil => intro x hx; cases hx
 | cons y r ih =>
  rw [allFit_cons, Bool.and_eq_true] at h
  intro x hx
  rcases List.mem_cons.1 hx with rfl | hx
  ·exact h.1
  ·exact ih h.2 x hx
theorem enc_list (k n : Int) (s : ByteArray) (l : List Wr) (h1 : k ≠ 1) (h2 : k ≠ 2) : (Wr.mk k n s l).enc.length = 5 + (encs l).length := by
 rw [enc_mk, if_neg h1, if_neg h2]; simp [highs_len]; omega
theorem fit_kinds {k n : Int} {s : ByteArray} {l : List Wr} {room : Int} (h : (Wr.mk k n s l).fit room = true) :
  (k = 1 ∨ k = 2 ∧ l = [] ∨ k = 3 ∧ s = ⟨#[]⟩) ∧ (k = 1 → l = []) ∧ (k = 3 → ∀ x ∈ l, x.fit (room - 1) = true) ∧ s.size ≤ 1048576 ∧ l.length ≤ 65536 := by
 rw [fit_mk] at h
 by_cases h1 : k = 1
 ·subst h1
  simp only [if_true, Bool.and_eq_true, beq_iff_eq] at h
  have := List.length_eq_zero_iff.1 h.2
  refine ⟨.inl rfl, fun _ => this, fun h => absurd h (by decide), by omega, by omega⟩
 rw [if_neg h1] at h
 by_cases h2 : k = 2
 ·subst h2
  simp only [if_true, Bool.and_eq_true, beq_iff_eq, decide_eq_true_eq] at h
  have := List.length_eq_zero_iff.1 h.2
  refine ⟨.inr (.inl ⟨rfl, this⟩), fun h => absurd h (by decide), fun h => absurd h (by decide), h.1.2, by omega⟩
 rw [if_neg h2] at h
 by_cases h3 : k = 3
 ·subst h3
  simp only [if_true, Bool.and_eq_true, beq_iff_eq, decide_eq_true_eq] at h
  obtain ⟨⟨⟨_, hs⟩, _⟩, hl, ha⟩ := h
  refine ⟨.inr (.inr ⟨rfl, size_zero hs⟩), fun h => absurd h (by decide), fun _ => all_fit ha, by omega, hl⟩
 ·rw [if_neg h3] at h; cases h
theorem size_any : ∀ (x : Wr) (room : Int), x.fit room = true → x.enc.length ≤ 1099511627776 → ∀ (L : Value) (w : World), HL w 0 L x.l →
  Calls Tryz.prog 132 #[.agg #[.int .i64 x.k, .int .i64 x.n, .string x.s, L]] w fun e w' => e = .returned (.int .i64 x.enc.length) ∧ Gn w w'
 | .mk k n s l, room, hf, hb, L, w, hL => by
  obtain ⟨hk, h1, h3, _, _⟩ := fit_kinds hf
  refine size_of k n s l hk hb L w hL (fun x hx L' w' hL' => ?_)
  have hk3 : k = 3 := by
   rcases hk with rfl | ⟨rfl, rfl⟩ | ⟨rfl, _⟩
   ·rw [h1 rfl] at hx; cases hx
   ·cases hx
   ·rfl
  obtain ⟨j, hj⟩ := List.getElem?_of_mem hx
  exact size_any x (room - 1) (h3 hk3 x hx) (by have := encs_part l j x hj; have := enc_list k n s l (by omega) (by omega); omega) L' w' hL'
termination_by x => SizeOf.sizeOf x
decreasing_by
 have := List.sizeOf_lt_of_mem hx
 simp
 omega
def PutOk (w0 : World) (b : Nat) (x : Wr) : Prop := ∀ (L : Value) (p : List UInt8) (g : Option Nat) (w : World), HL w0 0 L x.l → Below w0.heap.size w0 w → Bd w0.heap.size b g p w → p.length + x.enc.length ≤ 1099511627776 →
 Calls Tryz.prog 133 #[.pointer (some ⟨b, 0, none⟩), .agg #[.int .i64 x.k, .int .i64 x.n, .string x.s, L]] w (Wrote w0.heap.size b g w (p ++ x.enc) (.tuple #[]))
theorem byte_of (k : Int) (h1 : 0 ≤ k) (h2 : k ≤ 255) : ((UInt8.ofNat (k % 256).toNat).toNat : Int) = k := by
 rw [UInt8.toNat_ofNat']
 omega
theorem box_kept {w w2 : World} {b : Nat} {g g' : Option Nat} {B : Nat} {p : List UInt8} {cs : Array Value} (hbd : Bd B b g p w) (ht : BT b g g' (w.alloc (.cells cs 107)) w2) : w2.heap[w.heap.size]? = some (.cells cs 107 (0, 0)) := by
 have h := hbd.lt
 exact (ht.block (by simp) (by omega) (fun e => by have := (h.2 _ e.symm).2; omega)).trans (heap_alloc_new _ _)
theorem Bd.far {B b : Nat} {g : Option Nat} {p : List UInt8} {w : World} (h : Bd B b g p w) {i : Nat} (hi : w.heap.size ≤ i) : i ≠ b ∧ some i ≠ g := by
 have := h.lt
 exact ⟨by omega, fun e => by have := (h.lt.2 _ e.symm).2; omega⟩
theorem far_step {b i : Nat} {g g' : Option Nat} {w w' : World} (h : BT b g g' w w') (hi : i < w.heap.size) (hg : some i ≠ g) : some i ≠ g' := by
 rcases h.2.2.2.2.2 with rfl | ⟨n, rfl, hn⟩
 ·exact hg
 ·intro e; cases e; omega
theorem put_num (w0 : World) (b : Nat) (n : Int) (s : ByteArray) : PutOk w0 b (.mk 1 n s []) := by
 intro L p g w hL hbel hbd hlen
 obtain ⟨A, c, rfl⟩ := hL.slice
 rw [enc_mk, if_pos rfl] at hlen ⊢
 have hl9 : (UInt8.ofNat ((1 : Int) % 256).toNat :: highs n 8).length = 9 := by rw [List.length_cons, highs_len]
 rw [hl9] at hlen
 have hsz := hbel.size
 have Hbd := qj hbd
 clear hl9 hL hbel hbd
 go_enter Tryz.func133, Tryz.ntmps133
 go_wp2_with fail
 refine (writeByte_any w0.heap.size b g p (UInt8.ofNat ((1 : Int) % 256).toNat) 1 (by decide) _ (Hbd.out.kept (gb_alloc (gb_refl _ _) _)) (by omega) (by simp; omega)).mono ?_
 rintro e w2 ⟨rfl, g2, hb2, ht2⟩
 obtain ⟨⟨b0, b1, b2, b3⟩, _, hbl⟩ := box4 (box_kept Hbd.out ht2)
 have Hb2 := qj hb2
 have Ht2 := qj (ht2.ahead (gb_alloc (gb_refl _ _) _))
 clear hb2 ht2
 go_wp2_with fail
 refine (putHigh_any w0.heap.size b g2 _ n 8 (by decide) _ Hb2.out (by simp; omega) (by have := Ht2.out.size; omega)).mono ?_
 rintro e w3 ⟨rfl, g3, hb3, ht3⟩
 have Hb3 := qj hb3
 have Ht3 := qj (Ht2.out.trans ht3)
 clear hb3 ht3
 go_wp2_with fail
 go_end0
 refine ⟨rfl, g3, ?_, Ht3.out⟩
 have := Hb3.out
 rw [List.append_assoc] at this
 exact this
theorem put_text (w0 : World) (b : Nat) (n : Int) (s : ByteArray) : PutOk w0 b (.mk 2 n s []) := by
 intro L p g w hL hbel hbd hlen
 obtain ⟨A, c, rfl⟩ := hL.slice
 rw [enc_mk, if_neg (by decide), if_pos rfl] at hlen ⊢
 have hl9 : (UInt8.ofNat ((2 : Int) % 256).toNat :: (highs s.size 4 ++ s.data.toList)).length = 5 + s.size := by
  rw [List.length_cons, List.length_append, highs_len]; simp; omega
 rw [hl9] at hlen
 have hsz := hbel.size
 have Hbd := qj hbd
 clear hl9 hL hbel hbd
 go_enter Tryz.func133, Tryz.ntmps133
 go_wp2_with fail
 refine (writeByte_any w0.heap.size b g p (UInt8.ofNat ((2 : Int) % 256).toNat) 2 (by decide) _ (Hbd.out.kept (gb_alloc (gb_refl _ _) _)) (by omega) (by simp; omega)).mono ?_
 rintro e w2 ⟨rfl, g2, hb2, ht2⟩
 have hfar := Hbd.out.far (Nat.le_refl _)
 have hg2 := far_step ht2 (i := w.heap.size) (by simp) hfar.2
 obtain ⟨⟨b0, b1, b2, b3⟩, _, hbl⟩ := box4 (box_kept Hbd.out ht2)
 have Hbox := qj (box_kept Hbd.out ht2)
 have Hfar := qj hfar
 have Hg2 := qj hg2
 have Hb2 := qj hb2
 have Ht2 := qj (ht2.ahead (gb_alloc (gb_refl _ _) _))
 clear hb2 ht2 hfar hg2
 go_wp2_with fail
 refine (putHigh_any w0.heap.size b g2 _ s.size 4 (by decide) _ Hb2.out (by simp; omega) (by have := Ht2.out.size; omega)).mono ?_
 rintro e w3 ⟨rfl, g3, hb3, ht3⟩
 obtain ⟨⟨b0', b1', b2', b3'⟩, _, hbl'⟩ := box4 ((ht3.block hbl Hfar.out.1 Hg2.out).trans Hbox.out)
 have Hb3 := qj hb3
 have Ht3 := qj (Ht2.out.trans ht3)
 clear hb3 ht3 b0 b1 b2 b3
 go_wp2_with fail
 refine (writeString_any w0.heap.size b g3 _ s _ Hb3.out (by simp [highs_len]; omega) (by have := Ht3.out.size; omega)).mono ?_
 rintro e w4 ⟨rfl, g4, hb4, ht4⟩
 have Hb4 := qj hb4
 have Ht4 := qj (Ht3.out.trans ht4)
 clear hb4 ht4
 go_wp2_with fail
 go_end0
 refine ⟨rfl, g4, ?_, Ht4.out⟩
 have := Hb4.out
 simp only [List.append_assoc] at this
 exact this
end Go.Proofs.YtpcjbjpofcdjeaaGreatDoor
namespace Go.Proofs.YtpcjbjpofcdjeaaGreatDoor
open Go.RowKit Wd Mm Vw
theorem bt_below {w0 w w' : World} {b : Nat} {g g' : Option Nat} {p : List UInt8} (hb : Below w0.heap.size w0 w) (hbd : Bd w0.heap.size b g p w) (ht : BT b g g' w w') : Below w0.heap.size w0 w' :=
 hb.trans (ht.below hbd.1 (fun i e => (hbd.lt.2 i e).1) hb.size)
theorem below_alloc {w0 w : World} (hb : Below w0.heap.size w0 w) (o : Obj) : Below w0.heap.size w0 (w.alloc o) := hb.alloc hb.size o
theorem put_list (w0 : World) (b : Nat) (n : Int) (s : ByteArray) (l : List Wr) (hl16 : l.length ≤ 65536) (ih : ∀ x ∈ l, PutOk w0 b x) : PutOk w0 b (.mk 3 n s l) := by
 intro L p g w hL hbel hbd hlen
 replace hL : HL w0 0 L l := hL
 obtain ⟨A, c, rfl⟩ := hL.slice
 rw [enc_mk, if_neg (by decide), if_neg (by decide)] at hlen ⊢
 have hl9 : (UInt8.ofNat ((3 : Int) % 256).toNat :: (highs l.length 4 ++ encs l)).length = 5 + (encs l).length := by
  rw [List.length_cons, List.length_append, highs_len]; omega
 rw [hl9] at hlen
 have hsz := hbel.size
 have Hbd := qj hbd
 have HL0 := qj hL
 have Hih := qj ih
 have Hbel := qj hbel
 clear hl9 hL hbel hbd ih
 obtain ⟨N, HN⟩ : ∃ N : Nat, Hid (N = (encs l).length) := ⟨_, rfl⟩
 rw [← HN.out] at hlen
 go_enter Tryz.func133, Tryz.ntmps133
 go_wp2_with fail
 refine (writeByte_any w0.heap.size b g p (UInt8.ofNat ((3 : Int) % 256).toNat) 3 (by decide) _ (Hbd.out.kept (gb_alloc (gb_refl _ _) _)) (by omega) (by simp; omega)).mono ?_
 rintro e w2 ⟨rfl, g2, hb2, ht2⟩
 have hfar := Hbd.out.far (Nat.le_refl _)
 have hg2 := far_step ht2 (i := w.heap.size) (by simp) hfar.2
 obtain ⟨⟨b0, b1, b2, b3⟩, _, hbl⟩ := box4 (box_kept Hbd.out ht2)
 have Hbox := qj (box_kept Hbd.out ht2)
 have Hfar := qj hfar
 have Hg2 := qj hg2
 have Hb2 := qj hb2
 have Ht2 := qj (ht2.ahead (gb_alloc (gb_refl _ _) _))
 clear hb2 ht2 hfar hg2
 go_wp2_with fail
 refine (putHigh_any w0.heap.size b g2 _ l.length 4 (by decide) _ Hb2.out (by simp; omega) (by have := Ht2.out.size; omega)).mono ?_
 rintro e w3 ⟨rfl, g3, hb3, ht3⟩
 obtain ⟨⟨b0', b1', b2', b3'⟩, _, hbl'⟩ := box4 ((ht3.block hbl Hfar.out.1 Hg2.out).trans Hbox.out)
 have Hb3 := qj hb3
 have Ht3 := qj (Ht2.out.trans ht3)
 clear hb3 ht3 b0 b1 b2 b3 Hb2 Ht2 Hbox Hfar Hg2
 go_wp2_with fail
 clear b0' b1' b2' b3' hbl hbl'
 go_loopw [40] (fun i wr => ∃ (j : Nat) (g' : Option Nat), j ≤ l.length ∧ i = .int .i64 j ∧ Hid (Bd w0.heap.size b g' (p ++ UInt8.ofNat ((3 : Int) % 256).toNat :: (highs l.length 4 ++ encs (l.take j))) wr) ∧ Hid (BT b g g' w wr)) (fun i _ => l.length - (intOf i).toNat)
 case atStart =>
  refine ⟨0, g3, Nat.zero_le _, rfl, ?_, Ht3⟩
  have := Hb3.out
  simp only [List.append_assoc] at this
  show Bd _ _ _ _ _
  rw [List.take_zero, encs_nil, List.append_nil]
  exact this
 case round =>
  clear Hb3 Ht3
  obtain ⟨j, g', hj, rfl, Hb, Ht⟩ := hrel
  by_cases hlt : j < l.length
  ·have d3 : decide (j < l.length) = true := decide_eq_true hlt
   obtain ⟨x, hx⟩ : ∃ x, l[j]? = some x := ⟨_, List.getElem?_eq_getElem hlt⟩
   have hbr := bt_below Hbel.out Hbd.out Ht.out
   obtain ⟨bg, o, A2, c', rfl, _, hgs, c0, c1, c2, c3, hxl⟩ := HL0.out.item hx
   have hk := hbr.block bg hgs
   rw [← World.cell?_of_block (a := ⟨bg, o + j * 4, none⟩) hk] at c0
   rw [← World.cell?_of_block (a := ⟨bg, o + j * 4 + 1, none⟩) hk] at c1
   rw [← World.cell?_of_block (a := ⟨bg, o + j * 4 + 2, none⟩) hk] at c2
   rw [← World.cell?_of_block (a := ⟨bg, o + j * 4 + 3, none⟩) hk] at c3
   have hgw : bg < wr.heap.size := by have := hbr.size; omega
   have hqx : p.length + 5 + (encs (l.take j)).length + x.enc.length ≤ 1099511627776 := by
    have := encs_part l j x hx
    have := HN.out
    omega
   have Hx := qj hx
   have Hxl := qj hxl
   have Hbr := qj hbr
   clear hx hxl hbr hk
   go_wp2_with fail
   refine (Hih.out x (List.mem_of_getElem? Hx.out) _ _ g' _ Hxl.out (below_alloc Hbr.out _) (Hb.out.kept (gb_alloc (gb_refl _ _) _)) (by simp [highs_len]; omega)).mono ?_
   rintro e w4 ⟨rfl, g4, hb4, ht4⟩
   have Hb4 : Hid (Bd w0.heap.size b g4 (p ++ UInt8.ofNat ((3 : Int) % 256).toNat :: (highs l.length 4 ++ encs (l.take (j + 1)))) w4) := by
    show Bd _ _ _ _ _
    rw [encs_take l j x Hx.out]
    simpa only [List.append_assoc, List.cons_append] using hb4
   have Ht4 := qj (Ht.out.trans (ht4.ahead (gb_alloc (gb_refl _ _) _)))
   clear hb4 ht4 Hb Ht
   go_wp2_with fail
   go_roundw
   case rel => exact ⟨j + 1, g4, by omega, by go_num, Hb4, Ht4⟩
   case measure => simp [intOf]; omega
  ·have d3 : decide (j < l.length) = false := decide_eq_false hlt
   have Hd : Hid (l.take j = l) := List.take_of_length_le (by omega)
   clear hlt
   go_wp2_with fail
   go_end0
   refine ⟨rfl, g', ?_, Ht.out⟩
   have := Hb.out
   rw [Hd.out] at this
   exact this
theorem put_any : ∀ (x : Wr) (room : Int), x.fit room = true → ∀ (w0 : World) (b : Nat), PutOk w0 b x
 | .mk k n s l, room, hf, w0, b => by
  obtain ⟨hk, h1, h3, _, hl⟩ := fit_kinds hf
  rcases hk with rfl | ⟨rfl, rfl⟩ | ⟨rfl, rfl⟩
  ·obtain rfl := h1 rfl; exact put_num w0 b n s
  ·exact put_text w0 b n s
  ·exact put_list w0 b n _ l hl (fun x hx => put_any x (room - 1) (h3 rfl x hx) w0 b)
termination_by x => SizeOf.sizeOf x
decreasing_by
 have := List.sizeOf_lt_of_mem hx
 simp
 omega
theorem put_no (x : Wr) (L : Value) (w : World) (h : HL w 0 L x.l) (hm : x.may = false) :
  Calls Tryz.prog 95 #[.agg #[.int .i64 x.k, .int .i64 x.n, .string x.s, L]] w fun e w' => e = .returned (.string ⟨#[]⟩) ∧ Gn w w' := by
 have hmay := may_any x
 rw [hm] at hmay
 have Hmay := qj hmay
 have HH := qj h
 obtain ⟨A, c, rfl⟩ := h.slice
 clear h hmay hm
 go_enter Tryz.func95, Tryz.ntmps95
 go_wp2_with fail
 refine (Hmay.out _ _ (HH.out.kept (gb_alloc (gb_refl _ _) _))).mono ?_
 rintro e w2 ⟨rfl, g2⟩
 go_wp2_with fail
 go_ret
 exact ⟨rfl, gb_none (gb_alloc (gb_refl _ _) _) g2⟩
theorem put_yes (x : Wr) (L : Value) (w : World) (h : HL w 0 L x.l) (hm : x.may = true) (hlen : x.enc.length ≤ 1099511627776) :
  Calls Tryz.prog 95 #[.agg #[.int .i64 x.k, .int .i64 x.n, .string x.s, L]] w fun e w' => e = .returned (.string ⟨x.enc.toArray⟩) ∧ Gn w w' := by
 have hmay := may_any x
 have hsize := size_any x 6 hm hlen
 have hput := put_any x 6 hm
 rw [hm] at hmay
 have Hmay := qj hmay
 have Hsize := qj hsize
 have Hput := qj hput
 have HH := qj h
 obtain ⟨A, c, rfl⟩ := h.slice
 clear h hmay hm hsize hput
 go_enter Tryz.func95, Tryz.ntmps95
 go_wp2_with fail
 refine (Hmay.out _ _ (HH.out.kept (gb_alloc (gb_refl _ _) _))).mono ?_
 rintro e w2 ⟨rfl, g2⟩
 have g2w := gb_none (gb_alloc (gb_refl w none) _) g2
 have Hbox := qj (show w2.heap[w.heap.size]? = some (.cells #[.int .i64 x.k, .int .i64 x.n, .string x.s, .slice A x.l.length c] 107 (0, 0)) from (g2.block _ (by simp) (by simp)).trans (heap_alloc_new _ _))
 obtain ⟨⟨b0, b1, b2, b3⟩, _, hbl⟩ := box4 Hbox.out
 clear g2
 go_wp2_with fail
 refine (Hsize.out _ _ (HH.out.kept (gb_alloc g2w _))).mono ?_
 rintro e w3 ⟨rfl, g3⟩
 have Hnew := qj (show w3.heap[w2.heap.size]? = some (.cells #[.pointer none, .slice none 0 0] 168 (0, 0)) from (g3.block _ (by simp) (by simp)).trans (heap_alloc_new _ _))
 have g3w := gb_none (gb_alloc g2w _) g3
 have Hbox3 := qj ((g3.block w.heap.size (by simp; omega) (by simp)).trans ((Below.heap_alloc w2 _ w.heap.size hbl).trans Hbox.out))
 obtain ⟨⟨b0', b1', b2', b3'⟩, _, hbl'⟩ := box4 Hbox3.out
 have Hgr := qj (Tryz.Builder_Grow_fresh w2.heap.size w2.heap.size x.enc.length w3 (Nat.le_refl _) Hnew.out (by have := g3.size; simp at this; omega) (by omega))
 have Hbel3 : Hid (Below w2.heap.size w2 w3) := (below_alloc (w0 := w2) (Below.refl _ _) _).trans (gb_below g3 (by simp))
 have hBb : w.heap.size < w2.heap.size := hbl
 have Hlen := qj hlen
 clear b0 b1 b2 b3 Hbox g3 hlen
 obtain ⟨N, HN⟩ : ∃ N : Nat, Hid (x.enc.length = N) := ⟨_, rfl⟩
 rw [HN.out] at Hgr ⊢
 go_wp2_with fail
 refine Hgr.out.mono ?_
 rintro e w4 ⟨rfl, hbd, hbel⟩
 obtain ⟨g4, hbd4⟩ := Bd.of (l := []) hbd
 have Hbd4 := qj hbd4
 have Hbel4 := qj (Hbel3.out.trans hbel)
 obtain ⟨⟨b0, b1, b2, b3⟩, _, _⟩ := box4 ((hbel.block w.heap.size hBb).trans Hbox3.out)
 clear hbd hbd4 hbel b0' b1' b2' b3' Hgr hbl hbl'
 go_wp2_with fail
 refine (Hput.out w2 w2.heap.size _ [] g4 w4 (HH.out.kept g2w) Hbel4.out Hbd4.out (by have := Hlen.out; simp; omega)).mono ?_
 rintro e w5 ⟨rfl, g5, hbd5, ht5⟩
 have hbel5 := bt_below Hbel4.out Hbd4.out ht5
 rw [List.nil_append] at hbd5
 have Hst := qj (Tryz.Builder_String_any w2.heap.size w2.heap.size x.enc w5 (.inr (by rw [byte_cells]; exact hbd5.back)) hbel5.size)
 have Hbel5 := qj hbel5
 clear hbd5 ht5 hbel5 b0 b1 b2 b3
 go_wp2_with fail
 refine Hst.out.mono ?_
 rintro e w6 ⟨rfl, hbel6⟩
 go_wp2_with fail
 go_ret
 refine ⟨rfl, ?_⟩
 have hb := Hbel5.out.trans hbel6
 exact ⟨hb.os.trans g2w.os, hb.tape.trans g2w.tape, hb.output.trans g2w.output, Nat.le_trans g2w.size hb.size, fun i hi hn => (hb.block i (by have := g2w.size; omega)).trans (g2w.block i hi hn)⟩
theorem put_all (x : Wr) (L : Value) (w : World) (h : HL w 0 L x.l) (hlen : x.enc.length ≤ 1099511627776) :
  Calls Tryz.prog 95 #[.agg #[.int .i64 x.k, .int .i64 x.n, .string x.s, L]] w fun e w' => e = .returned (.string x.bytes) ∧ Gn w w' := by
 unfold Wr.bytes
 cases hm : x.may with
 | true => rw [if_pos rfl]; exact put_yes x L w h hm hlen
 | false => rw [if_neg (by decide)]; exact put_no x L w h hm
end Go.Proofs.YtpcjbjpofcdjeaaGreatDoor
namespace Go.Proofs.YtpcjbjpofcdjeaaGreatDoor
open Go.RowKit Wd Mm Vw
end Go.Proofs.YtpcjbjpofcdjeaaGreatDoor
