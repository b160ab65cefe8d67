/- A wire that came in, however great; many, Great. -/
import Derived.Test.YtbammjhafgbfkaaDoorVDWire
import Derived.Test.YtbammjhafgbfkaaDoorVEqf
namespace Go.Proofs.YtbammjhafgbfkaaDoor
open Go.RowKit Wd Mm Vw

/-- The slice value reads, in w, as the list of wires, however long. -/
inductive HX (w : World) : Value → List Wr → Prop
  | nil (A : Option Addr) (c : Nat) : HX w (.slice A 0 c) []
  | row (g o c : Nat) (l : List Wr) (L : Nat → Value) (hg : l ≠ [] → g < w.heap.size)
      (hk : ∀ i x, l[i]? = some x → w.cell? ⟨g, o + i * 4, none⟩ = some (.int .i64 x.k))
      (hv : ∀ i x, l[i]? = some x → w.cell? ⟨g, o + i * 4 + 1, none⟩ = some (.int .i64 x.n))
      (hs : ∀ i x, l[i]? = some x → w.cell? ⟨g, o + i * 4 + 2, none⟩ = some (.string x.s))
      (hL : ∀ i x, l[i]? = some x → w.cell? ⟨g, o + i * 4 + 3, none⟩ = some (L i))
      (hl : ∀ i x, l[i]? = some x → HX w (L i) x.l) : HX w (.slice (some ⟨g, o, none⟩) l.length c) l
theorem HX.slice {w : World} {v : Value} {l : List Wr} (h : HX w v l) : ∃ A c, v = .slice A l.length c := by
  cases h with
  | nil A c => exact ⟨A, c, rfl⟩
  | row g o c l L => exact ⟨_, c, rfl⟩
theorem enc_most (k n : Int) (s : ByteArray) (l : List Wr) (hs : s.size ≤ 600) : (Wr.mk k n s l).enc.length ≤ 605 + (encs l).length := by
  rw [enc_mk]
  by_cases h1 : k = 1
  · rw [if_pos h1]; simp [highs_len]; omega
  · rw [if_neg h1]
    by_cases h2 : k = 2
    · rw [if_pos h2]; simp [highs_len]; omega
    · rw [if_neg h2]; simp [highs_len]; omega
/-- What many says: where it is not more than 300, the wire is held as one that is not great. -/
def Many (w0 : World) (K : Int) (x : Wr) (L : Value) (w : World) (e : Ending) (w' : World) : Prop :=
  ∃ M : Int, e = .returned (.int .i64 M) ∧ 1 ≤ M ∧ M ≤ K + 1000 ∧ (M ≤ 300 → HL w0 0 L x.l ∧ (x.enc.length : Int) ≤ 605 * M) ∧ w.grownBy w' none

set_option maxHeartbeats 4000000 in
theorem many_great (w0 : World) (K : Int) (k n : Int) (s : ByteArray) (A : Option Addr) (len c : Nat) (l : List Wr) (deep : Int) (hK : 0 ≤ K) (w : World) (h : 20 < deep ∨ 100 < len ∨ 600 < s.size) :
    Calls Tryd.prog 24 #[.agg #[.int .i64 k, .int .i64 n, .string s, .slice A len c], .int .i64 deep] w (Many w0 K (.mk k n s l) (.slice A len c) w) := by
  have Hfin : ∀ w', w.grownBy w' none → Many w0 K (.mk k n s l) (.slice A len c) w (.returned (.int .i64 1000)) w' := fun w' g => ⟨1000, rfl, by omega, by omega, fun h => absurd h (by decide), g⟩
  by_cases h1 : 20 < deep
  · have d1 : decide (20 < deep) = true := decide_eq_true h1
    clear h h1
    go_enter Tryd.func24, Tryd.ntmps24
    go_wp2_with fail
    go_ret
    exact Hfin _ (gb_alloc (gb_refl _ _) _)
  have d1 : decide (20 < deep) = false := decide_eq_false h1
  by_cases h2 : 100 < len
  · have d2 : decide ((100 : Int) < (len : Int)) = true := decide_eq_true (by omega)
    have d2' : decide (100 < len) = true := decide_eq_true h2
    clear h h1 h2
    go_enter Tryd.func24, Tryd.ntmps24
    go_wp2_with fail
    go_ret
    exact Hfin _ (gb_alloc (gb_refl _ _) _)
  have d2 : decide ((100 : Int) < (len : Int)) = false := decide_eq_false (by omega)
  have d2' : decide (100 < len) = false := decide_eq_false h2
  have h3 : 600 < s.size := by omega
  have d3 : decide ((600 : Int) < (s.size : Int)) = true := decide_eq_true (by omega)
  have d3' : decide (600 < s.size) = true := decide_eq_true h3
  clear h h1 h2 h3
  go_enter Tryd.func24, Tryd.ntmps24
  go_wp2_with fail
  go_ret
  exact Hfin _ (gb_alloc (gb_refl _ _) _)
theorem HX.item {w : World} {A : Option Addr} {n c : Nat} {l : List Wr} (h : HX w (.slice A n c) l) {i : Nat} {x : Wr} (hi : l[i]? = some x) :
    ∃ g o A2 c2, A = some ⟨g, o, none⟩ ∧ g < w.heap.size ∧ w.cell? ⟨g, o + i * 4, none⟩ = some (.int .i64 x.k) ∧ w.cell? ⟨g, o + i * 4 + 1, none⟩ = some (.int .i64 x.n) ∧ w.cell? ⟨g, o + i * 4 + 2, none⟩ = some (.string x.s) ∧ w.cell? ⟨g, o + i * 4 + 3, none⟩ = some (.slice A2 x.l.length c2) ∧ HX w (.slice A2 x.l.length c2) x.l := by
  cases h with
  | nil => simp at hi
  | row g o c l L hg hk hv hs hL hl =>
    have h1 := hl i x hi
    have h2 := hL i x hi
    obtain ⟨A2, c2, he⟩ := h1.slice
    rw [he] at h1 h2
    exact ⟨g, o, A2, c2, rfl, hg (by rintro rfl; simp at hi), hk i x hi, hv i x hi, hs i x hi, h2, h1⟩
/-- The lists within that were gone through are held. -/
def Gone (w : World) (A : Option Addr) (l : List Wr) (j : Nat) : Prop := ∀ i x, i < j → l[i]? = some x → ∀ g o v, A = some ⟨g, o, none⟩ → w.cell? ⟨g, o + i * 4 + 3, none⟩ = some v → HL w 0 v x.l
theorem Gone.all {w : World} {A : Option Addr} {n c : Nat} {l : List Wr} (h : HX w (.slice A n c) l) (hl : l.length ≤ 1099511627776) (hg : Gone w A l l.length) : HL w 0 (.slice A n c) l := by
  cases h with
  | nil => exact .nil _ _
  | row g o c l L hb hk hv hs hL hl2 =>
    by_cases h0 : l = []
    · subst h0; exact .nil _ _
    · exact .row g o c l L (Nat.zero_le _) (hb h0) hl hk hv hs hL (fun i x hx => hg i x (List.getElem?_eq_some_iff.1 hx).1 hx g o (L i) rfl (hL i x hx))
/-- What is known of the count, on the way. -/
def Way (w : World) (A : Option Addr) (l : List Wr) (j : Nat) (q : Int) : Prop := q ≤ 300 → Gone w A l j ∧ ((encs (l.take j)).length : Int) ≤ 605 * (q - 1)
theorem Way.next {w : World} {A : Option Addr} {l : List Wr} {j : Nat} {q M : Int} {x : Wr} {v : Value} (h : Way w A l j q) (hx : l[j]? = some x) (_hq : 1 ≤ q) (hM : 1 ≤ M) (hv : ∀ g o, A = some ⟨g, o, none⟩ → w.cell? ⟨g, o + j * 4 + 3, none⟩ = some v) (hm : M ≤ 300 → HL w 0 v x.l ∧ (x.enc.length : Int) ≤ 605 * M) : Way w A l (j + 1) (q + M) := by
  intro hle
  obtain ⟨h1, h2⟩ := h (by omega)
  obtain ⟨m1, m2⟩ := hm (by omega)
  refine ⟨fun i y hi hy g o u hA hu => ?_, ?_⟩
  · by_cases hij : i < j
    · exact h1 i y hij hy g o u hA hu
    · obtain rfl : i = j := by omega
      obtain rfl : x = y := Option.some.inj (hx.symm.trans hy)
      obtain rfl : v = u := Option.some.inj ((hv g o hA).symm.trans hu)
      exact m1
  · rw [encs_take l j x hx, List.length_append]
    push_cast
    omega

set_option maxHeartbeats 8000000 in
set_option maxRecDepth 100000 in
theorem many_goes (w0 : World) (K : Int) (k n : Int) (s : ByteArray) (va : Value) (l : List Wr) (deep : Int) (hd0 : 0 ≤ deep) (hd : deep ≤ 20) (hK : 1000 ≤ K) (hK2 : K ≤ 100000) (hl : l.length ≤ 100) (hs : s.size ≤ 600) (w : World) (hX : HX w0 va l) (hg : w0.grownBy w none)
    (ih : ∀ x ∈ l, ∀ (L : Value) (w : World), HX w0 L x.l → w0.grownBy w none → Calls Tryd.prog 24 #[.agg #[.int .i64 x.k, .int .i64 x.n, .string x.s, L], .int .i64 (deep + 1)] w (Many w0 (K - 1000) x L w)) :
    Calls Tryd.prog 24 #[.agg #[.int .i64 k, .int .i64 n, .string s, va], .int .i64 deep] w (Many w0 K (.mk k n s l) va w) := by
  obtain ⟨A, c, rfl⟩ := hX.slice
  have hen := Lib.hid (enc_most k n s l hs)
  obtain ⟨N, HN⟩ : ∃ N : Nat, Hid (N = l.length) := ⟨_, rfl⟩
  have HX1 := Lib.hid hX
  have Hih := Lib.hid ih
  have Hg0 := Lib.hid hg
  clear hX ih hg
  rw [← HN.out] at HX1 hl ⊢
  have d1 : decide (20 < deep) = false := decide_eq_false (by omega)
  have d2 : decide ((100 : Int) < (N : Int)) = false := decide_eq_false (by omega)
  have d2' : decide (100 < N) = false := decide_eq_false (by omega)
  have d3 : decide ((600 : Int) < (s.size : Int)) = false := decide_eq_false (by omega)
  have d3' : decide (600 < s.size) = false := decide_eq_false (by omega)
  go_enter Tryd.func24, Tryd.ntmps24
  go_wp2_with fail
  go_loopw [6, 5] (fun i m wr => ∃ (j : Nat) (q : Int), j ≤ N ∧ i = .int .i64 j ∧ m = .int .i64 q ∧ 1 ≤ q ∧ q ≤ K + 999 ∧ Hid (Way w0 A l j q) ∧ Hid ((w.alloc (.cells #[.int .i64 k, .int .i64 n, .string s, .slice A N c] 24)).grownBy wr none)) (fun i _ _ => N - (intOf i).toNat)
  case atStart => exact ⟨0, 1, Nat.zero_le _, rfl, rfl, Int.le_refl _, by omega, (by intro _; exact ⟨fun i x hi => absurd hi (by omega), by simp [encs_nil]⟩), gb_refl _ _⟩
  case round =>
    obtain ⟨j, q, hj, rfl, rfl, hq1, hq2, Hw, Hg⟩ := hrel
    have hgw := gb_none (gb_alloc (gb_refl w none) (.cells #[.int .i64 k, .int .i64 n, .string s, .slice A N c] 24)) Hg.out
    have Hgw := Lib.hid hgw
    have Hgj := Lib.hid (gb_none Hg0.out hgw)
    obtain ⟨⟨b0, b1, b2, b3⟩, _, hbl⟩ := box4 (show wr.heap[w.heap.size]? = some (.cells #[.int .i64 k, .int .i64 n, .string s, .slice A N c] 24 (0, 0)) from (Hg.out.block _ (by simp) (by simp)).trans (heap_alloc_new w _))
    clear hgw b0 b1 b2
    by_cases hlt : j < N
    · have z1 : decide (j < N) = true := decide_eq_true hlt
      by_cases hq3 : q < 1000
      · have z2 : decide (q < 1000) = true := decide_eq_true hq3
        obtain ⟨x, hx⟩ : ∃ x, l[j]? = some x := ⟨_, List.getElem?_eq_getElem (by rw [← HN.out]; exact hlt)⟩
        obtain ⟨g, o, A2, c', rfl, hgs, c0, c1, c2, c3, hxl⟩ := HX1.out.item hx
        have hk := Hgj.out.block g hgs (by simp)
        have e0 := (cell_of_heap (a := ⟨g, o + j * 4, none⟩) hk).trans c0
        have e1 := (cell_of_heap (a := ⟨g, o + j * 4 + 1, none⟩) hk).trans c1
        have e2 := (cell_of_heap (a := ⟨g, o + j * 4 + 2, none⟩) hk).trans c2
        have e3 := (cell_of_heap (a := ⟨g, o + j * 4 + 3, none⟩) hk).trans c3
        have hgs2 : g < wr.heap.size := Nat.lt_of_lt_of_le hgs Hgj.out.size
        have Hx := Lib.hid hx
        have Hxl := Lib.hid hxl
        have Hc3 := Lib.hid c3
        clear hx hxl c0 c1 c2 c3 hk
        go_wp2_with fail
        refine (Hih.out x (List.mem_of_getElem? Hx.out) _ wr Hxl.out Hgj.out).mono ?_
        rintro e w2 ⟨M, rfl, hM1, hM2, hM3, gg⟩
        have Hw2 := Lib.hid (Hw.out.next Hx.out hq1 hM1 (v := .slice A2 x.l.length c') (fun g' o' e => by cases e; exact Hc3.out) hM3)
        have Hg2 := Lib.hid (gb_none Hg.out gg)
        clear hM3 gg
        go_wp2_with fail
        go_roundw
        case rel => exact ⟨j + 1, q + M, by omega, by go_num, by go_num, by omega, by omega, Hw2, Hg2⟩
        case measure => simp [intOf]; omega
      · have z2 : decide (q < 1000) = false := decide_eq_false hq3
        have Hfin : Hid (Many w0 K (.mk k n s l) (.slice A N c) w (.returned (.int .i64 q)) wr) := ⟨q, rfl, hq1, by omega, fun h => absurd h (by omega), Hgw.out⟩
        go_wp2_with fail
        go_ret
        exact Hfin.out
    · have z1 : decide (j < N) = false := decide_eq_false hlt
      have Hfin : Hid (Many w0 K (.mk k n s l) (.slice A N c) w (.returned (.int .i64 q)) wr) := by
        refine ⟨q, rfl, hq1, by omega, fun h => ?_, Hgw.out⟩
        obtain ⟨h1, h2⟩ := Hw.out h
        rw [List.take_of_length_le (by rw [← HN.out]; omega)] at h2
        refine ⟨Gone.all HX1.out (by show l.length ≤ _; rw [← HN.out]; omega) (fun i x hi => h1 i x (by have hi' : i < l.length := hi; rw [← HN.out] at hi'; omega)), ?_⟩
        have := hen.out
        omega
      clear hlt
      go_wp2_with fail
      go_ret
      exact Hfin.out
theorem many_any (w0 : World) : ∀ (x : Wr) (deep : Int), 0 ≤ deep → deep ≤ 21 → ∀ (L : Value) (w : World), HX w0 L x.l → w0.grownBy w none →
    Calls Tryd.prog 24 #[.agg #[.int .i64 x.k, .int .i64 x.n, .string x.s, L], .int .i64 deep] w (Many w0 (1000 * (21 - deep)) x L w)
  | .mk k n s l, deep, hd0, hd, L, w, hX, hg => by
    have hX' : HX w0 L l := hX
    show Calls Tryd.prog 24 #[.agg #[.int .i64 k, .int .i64 n, .string s, L], .int .i64 deep] w (Many w0 (1000 * (21 - deep)) (.mk k n s l) L w)
    by_cases h : 20 < deep ∨ 100 < l.length ∨ 600 < s.size
    · obtain ⟨A, c, rfl⟩ := hX'.slice
      exact many_great w0 _ k n s A l.length c l deep (by omega) w h
    · refine many_goes w0 _ k n s L l deep hd0 (by omega) (by omega) (by omega) (by omega) (by omega) w hX' hg ?_
      intro x hx L w hxX hg
      have := many_any w0 x (deep + 1) (by omega) (by omega) L w hxX hg
      rwa [show 1000 * (21 - (deep + 1)) = 1000 * (21 - deep) - 1000 by omega] at this
termination_by x => SizeOf.sizeOf x
decreasing_by
  have := List.sizeOf_lt_of_mem hx
  simp
  omega
/-- What Great says. -/
def Greats (w0 : World) (x : Wr) (L : Value) (w : World) (e : Ending) (w' : World) : Prop := ∃ b : Bool, e = .returned (.bool b) ∧ (b = false → HL w0 0 L x.l ∧ x.enc.length ≤ 181500) ∧ w.grownBy w' none
set_option maxHeartbeats 2000000 in
theorem great_any (w0 : World) (x : Wr) (L : Value) (w : World) (hX : HX w0 L x.l) (hg : w0.grownBy w none) :
    Calls Tryd.prog 10 #[.agg #[.int .i64 x.k, .int .i64 x.n, .string x.s, L]] w (Greats w0 x L w) := by
  have Hm := Lib.hid (fun w (h : w0.grownBy w none) => many_any w0 x 0 (by omega) (by omega) L w hX h)
  have Hg := Lib.hid hg
  obtain ⟨A, c, rfl⟩ := hX.slice
  clear hX hg
  go_enter Tryd.func10, Tryd.ntmps10
  go_wp2_with fail
  refine (Hm.out _ (gb_alloc Hg.out _)).mono ?_
  rintro e w2 ⟨M, rfl, hM1, hM2, hM3, gg⟩
  have Hg2 := Lib.hid (gb_none (gb_alloc (gb_refl w none) _) gg)
  by_cases h : 300 < M
  · have d : decide (300 < M) = true := decide_eq_true h
    clear hM3 gg
    go_wp2_with fail
    go_ret
    exact ⟨true, rfl, (fun h => by cases h), Hg2.out⟩
  · have d : decide (300 < M) = false := decide_eq_false h
    obtain ⟨h1, h2⟩ := hM3 (by omega)
    have Hh := Lib.hid h1
    have hle : x.enc.length ≤ 181500 := by omega
    clear hM3 gg h1 h2
    go_wp2_with fail
    go_ret
    exact ⟨false, rfl, fun _ => ⟨Hh.out, hle⟩, Hg2.out⟩
end Go.Proofs.YtbammjhafgbfkaaDoor
