/- mix: one more run, and how long its lists are. No program. The document's mark: a number in a rising list, once. mix's contract. The document's SameRuns and Last. The document's functions with mix's contract paid; answers where they are yes. Bytes and dots in memory. -/
import Derived.Test.YthijiefopcnclaaGreatDoorDtA
import Derived.Laws.AppendOwn
import Derived.Deep.DeepCutAuto
import Derived.Laws.AppendOwnNone
import Derived.Test.YthijiefopcnclaaGreatDoorTdA
import Derived.Deep.AppendLies
import Derived.Deep.RegionHeld3
import Derived.Laws.OwnMore
import Derived.Test.YthijiefopcnclaaGreatDoorFtA
import Derived.Test.YthijiefopcnclaaGreatDoorDtB
import Derived.Test.YthijiefopcnclaaGreatDoorDtPMay
namespace Go.Proofs.YthijiefopcnclaaGreatDoor.Dt

theorem pts_snoc (dev : Int) (x : Rn) : ∀ (l : List Rn) (m : List Int), pts dev m (l ++ [x]) = if x.d = dev then mk (mk (pts dev m l) x.f) (x.t + 1) else pts dev m l
  | [], m => rfl
  | r :: l, m => by rw [List.cons_append, pts, pts, pts_snoc dev x l]
theorem pts_more {l : List Rn} {k : Nat} {x : Rn} (dev : Int) (m : List Int) (h : l[k]? = some x) : pts dev m (l.take (k + 1)) = if x.d = dev then mk (mk (pts dev m (l.take k)) x.f) (x.t + 1) else pts dev m (l.take k) := by
  rw [List.take_add_one, h]; exact pts_snoc dev x _ m
theorem filter_two (x : Int) : ∀ l : List Int, (l.filter (fun y => decide (y < x))).length + (l.filter (fun y => decide (x < y))).length ≤ l.length
  | [] => Nat.le_refl _
  | y :: l => by
    have h := filter_two x l
    rw [List.filter_cons, List.filter_cons]
    by_cases h1 : y < x
    · rw [if_pos (decide_eq_true h1), if_neg (by simp; omega)]
      simp only [List.length_cons]; omega
    · rw [if_neg (by simp; omega)]
      by_cases h2 : x < y
      · rw [if_pos (decide_eq_true h2)]
        simp only [List.length_cons]; omega
      · rw [if_neg (by simp; omega)]
        simp only [List.length_cons]; omega
theorem mk_len_le (l : List Int) (x : Int) : (mk l x).length ≤ l.length + 1 := by
  have h := filter_two x l
  unfold mk
  rw [List.length_append, List.length_cons]; omega
theorem mk_pos (l : List Int) (x : Int) : 0 < (mk l x).length := by
  unfold mk
  rw [List.length_append, List.length_cons]; omega
theorem pts_len_le (dev : Int) : ∀ (l : List Rn) (m : List Int), (pts dev m l).length ≤ m.length + 2 * l.length
  | [], m => by simp [pts]
  | r :: l, m => by
    rw [pts, List.length_cons]
    have h := pts_len_le dev l (if r.d = dev then mk (mk m r.f) (r.t + 1) else m)
    by_cases e : r.d = dev
    · rw [if_pos e] at h ⊢
      have h1 := mk_len_le (mk m r.f) (r.t + 1)
      have h2 := mk_len_le m r.f
      omega
    · rw [if_neg e] at h ⊢
      omega
theorem step_len_le (dev : Int) (p : Int → Bool) (rs : List Rn) (x y : Int) : (step dev p rs x y).length ≤ rs.length + 1 := by
  unfold step
  split
  · cases rs with
    | nil => simp
    | cons r rs =>
      simp only []
      split <;> simp
  · omega
theorem go_len_le (dev : Int) (p : Int → Bool) : ∀ (m : List Int) (rs : List Rn), (go dev p rs m).length ≤ rs.length + m.length
  | [], rs => by simp [go]
  | [x], rs => by simp [go]
  | x :: y :: m, rs => by
    rw [go]
    have h := go_len_le dev p (y :: m) (step dev p rs x y)
    have h2 := step_len_le dev p rs x y
    simp only [List.length_cons] at h ⊢
    omega
theorem mix_len_le (dev : Int) (a b : List Rn) (alone : Bool) : (mixR dev a b alone).length ≤ 2 * (a.length + b.length) := by
  unfold mixR
  rw [List.length_reverse]
  have h := go_len_le dev (keep a b alone dev) (pts dev (pts dev [] a) b) []
  have h1 := pts_len_le dev b (pts dev [] a)
  have h2 := pts_len_le dev a []
  simp only [List.length_nil] at h h2
  omega
/-- The places rise; the runs so far and what is left. -/
theorem places_rising (dev : Int) (a b : List Rn) : Rising (pts dev (pts dev [] a) b) := pts_rising _ _ _ (pts_rising _ _ _ List.Pairwise.nil)
theorem go_next (dev : Int) (p : Int → Bool) (rs : List Rn) {M : List Int} {k : Nat} {x y : Int} (hx : M[k]? = some x) (hy : M[k + 1]? = some y) : go dev p rs (M.drop k) = go dev p (step dev p rs x y) (M.drop (k + 1)) := by
  have h1 : k < M.length := (List.getElem?_eq_some_iff.1 hx).1
  have h2 : k + 1 < M.length := (List.getElem?_eq_some_iff.1 hy).1
  have e1 : M.drop k = x :: M.drop (k + 1) := by rw [List.drop_eq_getElem_cons h1, (List.getElem?_eq_some_iff.1 hx).2]
  have e2 : M.drop (k + 1) = y :: M.drop (k + 1 + 1) := by rw [List.drop_eq_getElem_cons h2, (List.getElem?_eq_some_iff.1 hy).2]
  rw [e1, e2, go]
theorem go_end (dev : Int) (p : Int → Bool) (rs : List Rn) {M : List Int} {k : Nat} (h : M.length ≤ k + 1) : go dev p rs (M.drop k) = rs := by
  have hl : (M.drop k).length ≤ 1 := by rw [List.length_drop]; omega
  match hm : M.drop k with
  | [] => simp [go]
  | [x] => simp [go]
  | x :: y :: r => rw [hm] at hl; simp at hl
end Go.Proofs.YthijiefopcnclaaGreatDoor.Dt

namespace Go.Proofs.YthijiefopcnclaaGreatDoor.Dt
open Go Go.RowKit Go.Proofs.YthijiefopcnclaaGreatDoor.Mm

/-- The slice at A, of n numbers, reads as these. -/
def IL (w : World) (A : Option Addr) (n : Nat) (L : List Int) : Prop :=
  L.length = n ∧ (0 < n → ∃ g o, A = some ⟨g, o, none⟩ ∧ g < w.heap.size ∧ ∀ i, i < n → w.cell? ⟨g, o + i, none⟩ = some (.int .i64 (L.getD i 0)))
theorem IL.keep {w w' : World} {A : Option Addr} {n : Nat} {L : List Int} (h : IL w A n L) (hg : w.grownBy w' none) : IL w' A n L := by
  refine ⟨h.1, fun hn => ?_⟩
  obtain ⟨g, o, e, hl, hc⟩ := h.2 hn
  exact ⟨g, o, e, Nat.lt_of_lt_of_le hl hg.size, fun i hi => (World.cell?_of_block (a := ⟨g, o + i, none⟩) (hg.block g hl (by simp))).trans (hc i hi)⟩
theorem IL.none (w : World) : IL w none 0 [] := ⟨rfl, fun h => absurd h (by omega)⟩

theorem filt_all {l : List Int} {p : Int → Bool} (h : ∀ x ∈ l, p x = true) : l.filter p = l := List.filter_eq_self.2 h
theorem filt_no {l : List Int} {p : Int → Bool} (h : ∀ x ∈ l, p x = false) : l.filter p = [] := List.filter_eq_nil_iff.2 fun x hx => by rw [h x hx]; decide
/-- Cut where what is less ends. -/
theorem mk_cut {L : List Int} {x : Int} {k : Nat} (h1 : ∀ y ∈ L.take k, y < x) (h2 : ∀ y ∈ L.drop k, x < y) : mk L x = L.take k ++ x :: L.drop k := by
  have e : L = L.take k ++ L.drop k := (List.take_append_drop k L).symm
  unfold mk
  have f1 : L.filter (fun y => decide (y < x)) = L.take k := by
    conv => lhs; rw [e]
    rw [List.filter_append, filt_all (fun y hy => decide_eq_true (h1 y hy)), filt_no (fun y hy => decide_eq_false (by have := h2 y hy; omega)), List.append_nil]
  have f2 : L.filter (fun y => decide (x < y)) = L.drop k := by
    conv => lhs; rw [e]
    rw [List.filter_append, filt_no (fun y hy => decide_eq_false (by have := h1 y hy; omega)), filt_all (fun y hy => decide_eq_true (h2 y hy)), List.nil_append]
  rw [f1, f2]
theorem mk_has {L : List Int} {x : Int} {k : Nat} (hr : Rising L) (hx : L[k]? = some x) : mk L x = L := by
  have hk : k < L.length := (List.getElem?_eq_some_iff.1 hx).1
  have e : L = L.take k ++ x :: L.drop (k + 1) := by
    have h3 : L.drop k = x :: L.drop (k + 1) := by
      rw [List.drop_eq_getElem_cons hk]
      rw [(List.getElem?_eq_some_iff.1 hx).2]
    rw [← h3, List.take_append_drop]
  have hp := hr
  rw [e] at hp
  have hp2 := List.pairwise_append.1 hp
  have h1 : ∀ y ∈ L.take k, y < x := fun y hy => hp2.2.2 y hy x (by simp)
  have h2 : ∀ y ∈ L.drop (k + 1), x < y := (List.pairwise_cons.1 hp2.2.1).1
  unfold mk
  have f1 : L.filter (fun y => decide (y < x)) = L.take k := by
    conv => lhs; rw [e]
    rw [List.filter_append, filt_all (fun y hy => decide_eq_true (h1 y hy)), filt_no (fun y hy => decide_eq_false (by
      rcases List.mem_cons.1 hy with h | h
      · omega
      · have := h2 y h; omega)), List.append_nil]
  have f2 : L.filter (fun y => decide (x < y)) = L.drop (k + 1) := by
    conv => lhs; rw [e]
    rw [List.filter_append, filt_no (fun y hy => decide_eq_false (by have := h1 y hy; omega)), List.filter_cons, if_neg (by simp), filt_all (fun y hy => decide_eq_true (h2 y hy)), List.nil_append]
  rw [f1, f2, ← e]
theorem rising_lt {L : List Int} (hr : Rising L) {i j : Nat} (hij : i < j) (hj : j < L.length) : L.getD i 0 < L.getD j 0 := by
  have h := List.pairwise_iff_getElem.1 hr i j (by omega) hj hij
  rw [List.getD_eq_getElem?_getD, List.getElem?_eq_getElem (show i < L.length by omega), List.getD_eq_getElem?_getD, List.getElem?_eq_getElem hj]
  exact h
theorem in_take {L : List Int} {k : Nat} {y : Int} (hy : y ∈ L.take k) : ∃ i, i < k ∧ i < L.length ∧ L.getD i 0 = y := by
  obtain ⟨i, hi, e⟩ := List.mem_iff_getElem.1 hy
  rw [List.length_take] at hi
  refine ⟨i, by omega, by omega, ?_⟩
  rw [List.getElem_take] at e
  rw [List.getD_eq_getElem?_getD, List.getElem?_eq_getElem (show i < L.length by omega)]; exact e
theorem in_drop {L : List Int} {k : Nat} {y : Int} (hy : y ∈ L.drop k) : ∃ i, k ≤ i ∧ i < L.length ∧ L.getD i 0 = y := by
  obtain ⟨i, hi, e⟩ := List.mem_iff_getElem.1 hy
  rw [List.length_drop] at hi
  refine ⟨k + i, by omega, by omega, ?_⟩
  rw [List.getElem_drop] at e
  rw [List.getD_eq_getElem?_getD, List.getElem?_eq_getElem (show k + i < L.length by omega)]; exact e

theorem int_inf : (Tryz.prog.info? 3).map (fun i => (i.zero, i.size, i.bytes)) = some (some (.int .i64 0), 1, 8) := by kernel_rfl
def iv (L : List Int) : List Value := L.map (Value.int .i64)
theorem iv_len (L : List Int) : (iv L).length = L.length := List.length_map _
theorem iv_one (L : List Int) : ∀ u ∈ iv L, u.oneCell' = true := by
  intro u hu
  simp only [iv, List.mem_map] at hu
  obtain ⟨x, _, rfl⟩ := hu
  rfl
theorem own_emptyI (w : World) (base : Nat) (t : TypeId) (h : base ≤ w.heap.size) : (w.alloc (.cells #[] t)).ownsRow base t 1 (.slice (some ⟨w.heap.size, 0, none⟩) 0 0) 0 [] :=
  ⟨rfl, .inr ⟨w.heap.size, 0, #[], rfl, h, heap_alloc_new w _, Nat.le_refl _, by decide, rfl, rfl⟩⟩
theorem il_part {w W : World} {g o n a b : Nat} {L : List Int} (hL : L.length = n) (hc : ∀ i, i < n → w.cell? ⟨g, o + i, none⟩ = some (.int .i64 (L.getD i 0))) (hgl : g < w.heap.size) (hg : w.grownBy W none) :
    ∀ j u, (iv ((L.drop a).take b))[j]? = some u → W.cell? ((⟨g, o + a, none⟩ : Addr).add j) = some u := fun j u hu => by
  have hadd : (⟨g, o + a, none⟩ : Addr).add j = ⟨g, o + (a + j), none⟩ := by unfold Addr.add; split <;> simp_all [Nat.add_assoc]
  rw [hadd, World.cell?_of_block (w := w) (a := ⟨g, o + (a + j), none⟩) (hg.block g hgl (by simp))]
  unfold iv at hu
  rw [List.getElem?_map, List.getElem?_take, List.getElem?_drop] at hu
  split at hu
  · cases hx : L[a + j]? with
    | none => rw [hx] at hu; cases hu
    | some z =>
      rw [hx] at hu
      rw [hc (a + j) (by rw [← hL]; exact (List.getElem?_eq_some_iff.1 hx).1), List.getD_eq_getElem?_getD, hx]
      exact hu
  · cases hu
theorem il_front {w W : World} {g o n b : Nat} {L : List Int} (hL : L.length = n) (hc : ∀ i, i < n → w.cell? ⟨g, o + i, none⟩ = some (.int .i64 (L.getD i 0))) (hgl : g < w.heap.size) (hg : w.grownBy W none) :
    ∀ j u, (iv (L.take b))[j]? = some u → W.cell? ((⟨g, o, none⟩ : Addr).add j) = some u := by
  have h := il_part (a := 0) (b := b) hL hc hgl hg
  simpa using h
theorem il_back {w W : World} {g o n a : Nat} {L : List Int} (hL : L.length = n) (hc : ∀ i, i < n → w.cell? ⟨g, o + i, none⟩ = some (.int .i64 (L.getD i 0))) (hgl : g < w.heap.size) (hg : w.grownBy W none) :
    ∀ j u, (iv (L.drop a))[j]? = some u → W.cell? ((⟨g, o + a, none⟩ : Addr).add j) = some u := by
  have h := il_part (a := a) (b := L.length) hL hc hgl hg
  rwa [List.take_of_length_le (by rw [List.length_drop]; omega)] at h
theorem one_new (w : World) (x : Int) (t : TypeId) : ∀ j u, (iv [x])[j]? = some u → (w.alloc (.cells #[.int .i64 x] t)).cell? ((⟨w.heap.size, 0, none⟩ : Addr).add j) = some u := fun j u hu => by
  have hadd : (⟨w.heap.size, 0, none⟩ : Addr).add j = ⟨w.heap.size, j, none⟩ := by unfold Addr.add; split <;> simp_all
  rw [hadd]
  have := cell_of_row _ w.heap.size j #[.int .i64 x] t (0, 0) (heap_alloc_new w _)
  rw [this]
  simpa [iv] using hu
theorem own_slice1 {w : World} {B : Nat} {e : TypeId} {v : Value} {n : Nat} {xs : List Value} (h : w.ownsRow B e 1 v n xs) : ∃ A m c, v = .slice A m c := by
  rcases h.2 with ⟨rfl, _⟩ | ⟨g, cap, cur, rfl, _⟩
  · exact ⟨_, _, _, rfl⟩
  · exact ⟨_, _, _, rfl⟩
theorem own_far {w : World} {B : Nat} {e : TypeId} {v : Value} {n : Nat} {xs : List Value} (h : w.ownsRow B e 1 v n xs) : ∀ i, v.ownBlock = some i → B ≤ i := fun i hi => by
  rcases h.2 with ⟨rfl, _⟩ | ⟨g, cap, cur, rfl, hB, _⟩
  · simp [Value.ownBlock] at hi
  · simp [Value.ownBlock] at hi; omega
theorem own_il {w : World} {B n : Nat} {t : TypeId} {v : Value} {L : List Int} (h : w.ownsRow B t 1 v n (iv L)) (hn : L.length = n) : ∃ A c, v = .slice A n c ∧ IL w A n L ∧ n ≤ c := by
  have hcells := fun (g : Nat) (hg : v.ownBlock = some g) => World.ownsRow.cells h hg
  rcases h.2 with ⟨rfl, h0⟩ | ⟨g, cap, cur, rfl, hB, hg, hle, _⟩
  · exact ⟨none, 0, by rw [h0], ⟨hn, fun hp => absurd hp (by omega)⟩, by omega⟩
  · refine ⟨_, cap, rfl, ⟨hn, fun _ => ⟨g, 0, rfl, (Array.getElem?_eq_some_iff.1 hg).1, fun i hi => ?_⟩⟩, hle⟩
    have := hcells g rfl i (.int .i64 (L.getD i 0)) (by
      unfold iv
      rw [List.getElem?_map, List.getElem?_eq_getElem (by omega), List.getD_eq_getElem?_getD, List.getElem?_eq_getElem (by omega)]; rfl)
    have hadd : (⟨g, 0, none⟩ : Addr).add i = ⟨g, 0 + i, none⟩ := by unfold Addr.add; split <;> simp_all
    rwa [hadd] at this

set_option maxHeartbeats 4000000 in
set_option maxRecDepth 100000 in
theorem mark_loop (A : Option Addr) (n c : Nat) (L : List Int) (x : Int) (w : World) (h : IL w A n L) (hr : Rising L) (hn : n ≤ 1000000) (hc : n ≤ c) (h0 : n = 0 → A = none ∧ c = 0) :
    Calls Tryz.prog 101 #[.slice A n c, .int .i64 x] w fun e w' => ∃ A' c', e = .returned (.slice A' (mk L x).length c') ∧ IL w' A' (mk L x).length (mk L x) ∧ (mk L x).length ≤ c' ∧ w.grownBy w' none := by
  have H := Lib.hid h
  have Hr := Lib.hid hr
  clear h hr
  go_enter Tryz.func101, Tryz.ntmps101
  go_wp2_with fail
  go_loopw [5] (fun v wr => ∃ k : Nat, k ≤ n ∧ v = .int .i64 k ∧ Hid (∀ i, k ≤ i → i < n → x ≤ L.getD i 0) ∧ w = wr) (fun v _ => (intOf v).toNat)
  case atStart => exact ⟨n, Nat.le_refl _, rfl, (fun i h1 h2 => by omega), rfl⟩
  case round =>
    obtain ⟨k, hk, rfl, HX, rfl⟩ := hrel
    by_cases hk0 : k = 0
    · have HS : Hid (∀ i, i < k → L.getD i 0 < x) := fun i h => by omega
      have d1 : decide ((0 : Int) < (k : Int)) = false := decide_eq_false (by omega)
      have d1n : decide (0 < k) = false := decide_eq_false (by omega)
      clear hk0
      go_upto_region 4 with fail
      clear d1 d1n
      have HM : Hid ((∀ y ∈ L.take k, y < x) ∧ ∀ y ∈ L.drop k, x ≤ y) := by
        refine ⟨fun y hy => ?_, fun y hy => ?_⟩
        · obtain ⟨i, h1, h2, rfl⟩ := in_take hy
          exact HS.out i h1
        · obtain ⟨i, h1, h2, rfl⟩ := in_drop hy
          exact HX.out i h1 (by rw [← H.out.1]; exact h2)
      by_cases hkn : k < n
      · obtain ⟨g, o, hA, hgl, hcc⟩ := H.out.2 (by omega)
        cases hA
        have hck := hcc k hkn
        have HCC := Lib.hid hcc
        clear hcc
        obtain ⟨y2, hy2⟩ : ∃ y, L.getD k 0 = y := ⟨_, rfl⟩
        rw [hy2] at hck
        have d3 : decide (k < n) = true := decide_eq_true hkn
        have d4 : decide ((k : Int) < (n : Int)) = true := decide_eq_true (by omega)
        have bk : (k : Int) < (n : Int) := by omega
        by_cases e : y2 = x
        · subst e
          have f1 : (y2 == y2) = true := by simp
          have Hm : Hid (mk L y2 = L) := mk_has Hr.out (k := k) (by
            have hKL : k < L.length := by rw [H.out.1]; exact hkn
            rw [List.getElem?_eq_getElem hKL, ← hy2, List.getD_eq_getElem?_getD, List.getElem?_eq_getElem hKL]; rfl)
          have HL1 := Lib.hid H.out.1
          clear hy2
          go_wp2_with fail
          go_ret
          rw [Hm.out, HL1.out]
          exact ⟨_, c, rfl, H.out, hc, gb_refl _ _⟩
        · have f1 : (y2 == x) = false := by rw [beq_eq_false_iff_ne]; exact e
          have Hc : Hid (mk L x = L.take k ++ x :: L.drop k) := mk_cut HM.out.1 (fun y hy => by
            have h1 := HM.out.2 y hy
            obtain ⟨i, h2, h3, h4⟩ := in_drop hy
            by_cases e2 : i = k
            · subst e2; rw [hy2] at h4; omega
            · have := rising_lt Hr.out (show k < i by omega) h3; rw [hy2] at this
              have h5 := HX.out k (Nat.le_refl _) hkn
              rw [hy2] at h5; omega)
          clear e hy2
          obtain ⟨i0, hi0, hz0, hz1, hz2⟩ := info_parts int_inf
          have Hi0 := Lib.hid hi0
          have Hz0 := Lib.hid hz0
          have Hz1 := Lib.hid hz1
          have Hz2 := Lib.hid hz2
          have HLn := Lib.hid H.out.1
          clear hi0 hz0 hz1 hz2
          have e1 : (iv (L.take k)).length = k * 1 := by rw [iv_len, List.length_take, HLn.out]; omega
          have E1 := Lib.hid e1
          have e3 : (iv (L.drop k)).length = (n - k) * 1 := by rw [iv_len, List.length_drop, HLn.out]; omega
          have E3 := Lib.hid e3
          clear e1 e3
          go_upto_region 7 with (at_builtin; refine wpList_append_own _ rfl (.tmp 35) (.tmp 38) 73 rfl w.heap.size 3 i0 (.int .i64 0) 1 8 Tryz.underlying73 Hi0.out Hz0.out Hz1.out Hz2.out rfl (by decide) _ 0 _ rfl (own_emptyI w _ _ (Nat.le_refl _)) ⟨g, o, none⟩ k c (iv (L.take k)) rfl E1.out (il_front HLn.out HCC.out hgl (gb_alloc (gb_refl _ _) _)) (iv_one _) (by simp only [maxLen]; omega) (by omega) (by simp) ?_; intro v1 w1 own1 grow1 _)
          have g1 : w.grownBy w1 none := gb_new (gb_alloc (gb_refl _ _) _) grow1 (Nat.le_refl _)
          have own1' : w1.ownsRow w.heap.size 3 1 v1 k (iv (L.take k)) := by have h := own1; rw [Nat.zero_add, List.nil_append] at h; exact h
          obtain ⟨A1, n1, c1, rfl⟩ : ∃ A m c, v1 = .slice A m c := own_slice1 own1
          have hw1 := g1.size
          clear grow1 own1
          go_upto_region 8 with (at_builtin; refine wpList_append_own _ rfl (.tmp 40) (.tmp 42) 73 rfl w.heap.size 3 i0 (.int .i64 0) 1 8 Tryz.underlying73 Hi0.out Hz0.out Hz1.out Hz2.out rfl (by decide) _ k _ rfl (own1'.kept (gb_alloc (gb_refl w1 none) (.cells #[.int .i64 x] 3)) (by cases hv : Value.ownBlock (.slice A1 n1 c1) <;> simp)) ⟨w1.heap.size, 0, none⟩ 1 1 (iv [x]) rfl rfl (one_new _ _ _) (iv_one _) (by simp only [maxLen]; omega) (by omega) (by simp; omega) ?_; intro v2 w2 own2 grow2 _)
          have g2 : w.grownBy w2 none := gb_step (gb_alloc g1 _) grow2 (fun i e => .inr (own_far own1' i e))
          have hw2 := g2.size
          have Own2 := Lib.hid own2
          clear grow2 own1' own2
          have bk2 : (k : Int) ≤ (n : Int) := by omega
          have bkc : (k : Int) < (c : Int) := by omega
          have bkc2 : k < c := by omega
          have bnc : (n : Int) ≤ (c : Int) := by omega
          go_wp2_with (at_builtin; refine wpList_append_own _ rfl (.tmp 44) (.tmp 47) 73 rfl w.heap.size 3 i0 (.int .i64 0) 1 8 Tryz.underlying73 Hi0.out Hz0.out Hz1.out Hz2.out rfl (by decide) _ (k + 1) _ rfl Own2.out ⟨g, o + k, none⟩ (n - k) (c - k) (iv (L.drop k)) rfl E3.out (il_back HLn.out HCC.out hgl g2) (iv_one _) (by simp only [maxLen]; omega) (by omega) (by omega) ?_; intro v3 w3 own3 grow3 _)
          have g3 : w.grownBy w3 none := gb_step g2 grow3 (fun i e => .inr (own_far Own2.out i e))
          have hlen : (mk L x).length = k + 1 + (n - k) := by rw [Hc.out, List.length_append, List.length_cons, List.length_take, List.length_drop, HLn.out]; omega
          have hiv : iv (L.take k) ++ iv [x] ++ iv (L.drop k) = iv (mk L x) := by rw [Hc.out]; simp [iv]
          rw [hiv] at own3
          obtain ⟨A3, c3, rfl, hil, hle⟩ := own_il own3 hlen
          clear own3 grow3
          go_ret
          rw [hlen]
          exact ⟨A3, c3, rfl, hil, hle, g3⟩
      · have hkn2 : k = n := by omega
        have d3 : decide (k < n) = false := decide_eq_false hkn
        have d4 : decide ((k : Int) < (n : Int)) = false := decide_eq_false (by omega)
        have Hc : Hid (mk L x = L.take k ++ x :: L.drop k) := mk_cut HM.out.1 (fun y hy => by
          rw [List.drop_eq_nil_of_le (by rw [H.out.1]; omega)] at hy; cases hy)
        by_cases hn0 : n = 0
        · obtain ⟨rfl, rfl⟩ := h0 hn0
          have hk00 : k = 0 := by omega
          have hL0 : L = [] := List.eq_nil_of_length_eq_zero (by rw [H.out.1]; exact hn0)
          have Hc0 : Hid (mk L x = [x]) := by show _ = _; rw [Hc.out, hL0]; simp
          obtain ⟨i0, hi0, hz0, hz1, hz2⟩ := info_parts int_inf
          have Hi0 := Lib.hid hi0
          have Hz0 := Lib.hid hz0
          have Hz1 := Lib.hid hz1
          have Hz2 := Lib.hid hz2
          clear hi0 hz0 hz1 hz2 hL0
          go_upto_region 7 with fail
          go_upto_region 8 with (at_builtin; refine wpList_append_own _ rfl (.tmp 40) (.tmp 42) 73 rfl w.heap.size 3 i0 (.int .i64 0) 1 8 Tryz.underlying73 Hi0.out Hz0.out Hz1.out Hz2.out rfl (by decide) _ 0 _ rfl ((own_emptyI w _ _ (Nat.le_refl _)).kept (gb_alloc (gb_refl _ none) (.cells #[.int .i64 x] 3)) (.inr (by simp [Value.ownBlock]))) ⟨w.heap.size + 1, 0, none⟩ 1 1 (iv [x]) rfl rfl (by have h := one_new (w.alloc (.cells #[] 3)) x 3; rwa [show (w.alloc (.cells #[] 3)).heap.size = w.heap.size + 1 by simp] at h) (iv_one _) (by decide) (by decide) (by simp; omega) ?_; intro v2 w2 own2 grow2 _)
          have own2' : w2.ownsRow w.heap.size 3 1 v2 1 (iv [x]) := by have h := own2; rw [Nat.zero_add, List.nil_append] at h; exact h
          have g2 : w.grownBy w2 none := gb_step (gb_alloc (gb_alloc (gb_refl _ _) _) _) grow2 (fun i e => .inr (Nat.le_of_eq (Option.some.inj e)))
          obtain ⟨A3, c3, rfl, hil, hle⟩ := own_il own2' rfl
          have Own2 := Lib.hid own2'
          clear own2 own2' grow2
          go_wp2_with (at_builtin; refine wpList_append_own_none rfl (.tmp 44) (.tmp 47) 73 rfl w.heap.size 3 i0 1 Tryz.underlying73 Hi0.out _ 1 _ rfl Own2.out rfl ?_)
          go_ret
          rw [Hc0.out]
          exact ⟨A3, c3, rfl, hil, hle, g2⟩
        · obtain ⟨g, o, hA, hgl, hcc⟩ := H.out.2 (by omega)
          cases hA
          have HCC := Lib.hid hcc
          have HKN := Lib.hid hkn2
          clear hcc hkn2 hkn
          by_cases hkc : k < c
          · skip
            obtain ⟨i0, hi0, hz0, hz1, hz2⟩ := info_parts int_inf
            have Hi0 := Lib.hid hi0
            have Hz0 := Lib.hid hz0
            have Hz1 := Lib.hid hz1
            have Hz2 := Lib.hid hz2
            have HLn := Lib.hid H.out.1
            clear hi0 hz0 hz1 hz2
            have e1 : (iv (L.take k)).length = k * 1 := by rw [iv_len, List.length_take, HLn.out]; omega
            have E1 := Lib.hid e1
            have e3 : (iv (L.drop k)).length = (n - k) * 1 := by rw [iv_len, List.length_drop, HLn.out]; omega
            have E3 := Lib.hid e3
            clear e1 e3
            go_upto_region 7 with (at_builtin; refine wpList_append_own _ rfl (.tmp 35) (.tmp 38) 73 rfl w.heap.size 3 i0 (.int .i64 0) 1 8 Tryz.underlying73 Hi0.out Hz0.out Hz1.out Hz2.out rfl (by decide) _ 0 _ rfl (own_emptyI w _ _ (Nat.le_refl _)) ⟨g, o, none⟩ k c (iv (L.take k)) rfl E1.out (il_front HLn.out HCC.out hgl (gb_alloc (gb_refl _ _) _)) (iv_one _) (by simp only [maxLen]; omega) (by omega) (by simp) ?_; intro v1 w1 own1 grow1 _)
            have g1 : w.grownBy w1 none := gb_new (gb_alloc (gb_refl _ _) _) grow1 (Nat.le_refl _)
            have own1' : w1.ownsRow w.heap.size 3 1 v1 k (iv (L.take k)) := by have h := own1; rw [Nat.zero_add, List.nil_append] at h; exact h
            obtain ⟨A1, n1, c1, rfl⟩ : ∃ A m c, v1 = .slice A m c := own_slice1 own1
            have hw1 := g1.size
            clear grow1 own1
            go_upto_region 8 with (at_builtin; refine wpList_append_own _ rfl (.tmp 40) (.tmp 42) 73 rfl w.heap.size 3 i0 (.int .i64 0) 1 8 Tryz.underlying73 Hi0.out Hz0.out Hz1.out Hz2.out rfl (by decide) _ k _ rfl (own1'.kept (gb_alloc (gb_refl w1 none) (.cells #[.int .i64 x] 3)) (by cases hv : Value.ownBlock (.slice A1 n1 c1) <;> simp)) ⟨w1.heap.size, 0, none⟩ 1 1 (iv [x]) rfl rfl (one_new _ _ _) (iv_one _) (by simp only [maxLen]; omega) (by omega) (by simp; omega) ?_; intro v2 w2 own2 grow2 _)
            have g2 : w.grownBy w2 none := gb_step (gb_alloc g1 _) grow2 (fun i e => .inr (own_far own1' i e))
            have hw2 := g2.size
            have Own2 := Lib.hid own2
            clear grow2 own1' own2
            have bk2 : (k : Int) ≤ (n : Int) := by omega
            have bkc : (k : Int) < (c : Int) := by omega
            have bkc2 : k < c := by omega
            have bnc : (n : Int) ≤ (c : Int) := by omega
            go_wp2_with (at_builtin; refine wpList_append_own _ rfl (.tmp 44) (.tmp 47) 73 rfl w.heap.size 3 i0 (.int .i64 0) 1 8 Tryz.underlying73 Hi0.out Hz0.out Hz1.out Hz2.out rfl (by decide) _ (k + 1) _ rfl Own2.out ⟨g, o + k, none⟩ (n - k) (c - k) (iv (L.drop k)) rfl E3.out (il_back HLn.out HCC.out hgl g2) (iv_one _) (by simp only [maxLen]; omega) (by omega) (by omega) ?_; intro v3 w3 own3 grow3 _)
            have g3 : w.grownBy w3 none := gb_step g2 grow3 (fun i e => .inr (own_far Own2.out i e))
            have hlen : (mk L x).length = k + 1 + (n - k) := by rw [Hc.out, List.length_append, List.length_cons, List.length_take, List.length_drop, HLn.out]; omega
            have hiv : iv (L.take k) ++ iv [x] ++ iv (L.drop k) = iv (mk L x) := by rw [Hc.out]; simp [iv]
            rw [hiv] at own3
            obtain ⟨A3, c3, rfl, hil, hle⟩ := own_il own3 hlen
            clear own3 grow3
            go_ret
            rw [hlen]
            exact ⟨A3, c3, rfl, hil, hle, g3⟩
          · have hkc2 : ¬ ((k : Int) < (c : Int)) := by omega
            obtain ⟨i0, hi0, hz0, hz1, hz2⟩ := info_parts int_inf
            have Hi0 := Lib.hid hi0
            have Hz0 := Lib.hid hz0
            have Hz1 := Lib.hid hz1
            have Hz2 := Lib.hid hz2
            have HLn := Lib.hid H.out.1
            clear hi0 hz0 hz1 hz2
            have e1 : (iv (L.take k)).length = k * 1 := by rw [iv_len, List.length_take, HLn.out]; omega
            have E1 := Lib.hid e1
            have e3 : (iv (L.drop k)).length = (n - k) * 1 := by rw [iv_len, List.length_drop, HLn.out]; omega
            have E3 := Lib.hid e3
            clear e1 e3
            go_upto_region 7 with (at_builtin; refine wpList_append_own _ rfl (.tmp 35) (.tmp 38) 73 rfl w.heap.size 3 i0 (.int .i64 0) 1 8 Tryz.underlying73 Hi0.out Hz0.out Hz1.out Hz2.out rfl (by decide) _ 0 _ rfl (own_emptyI w _ _ (Nat.le_refl _)) ⟨g, o, none⟩ k c (iv (L.take k)) rfl E1.out (il_front HLn.out HCC.out hgl (gb_alloc (gb_refl _ _) _)) (iv_one _) (by simp only [maxLen]; omega) (by omega) (by simp) ?_; intro v1 w1 own1 grow1 _)
            have g1 : w.grownBy w1 none := gb_new (gb_alloc (gb_refl _ _) _) grow1 (Nat.le_refl _)
            have own1' : w1.ownsRow w.heap.size 3 1 v1 k (iv (L.take k)) := by have h := own1; rw [Nat.zero_add, List.nil_append] at h; exact h
            obtain ⟨A1, n1, c1, rfl⟩ : ∃ A m c, v1 = .slice A m c := own_slice1 own1
            have hw1 := g1.size
            clear grow1 own1
            go_upto_region 8 with (at_builtin; refine wpList_append_own _ rfl (.tmp 40) (.tmp 42) 73 rfl w.heap.size 3 i0 (.int .i64 0) 1 8 Tryz.underlying73 Hi0.out Hz0.out Hz1.out Hz2.out rfl (by decide) _ k _ rfl (own1'.kept (gb_alloc (gb_refl w1 none) (.cells #[.int .i64 x] 3)) (by cases hv : Value.ownBlock (.slice A1 n1 c1) <;> simp)) ⟨w1.heap.size, 0, none⟩ 1 1 (iv [x]) rfl rfl (one_new _ _ _) (iv_one _) (by simp only [maxLen]; omega) (by omega) (by simp; omega) ?_; intro v2 w2 own2 grow2 _)
            have g2 : w.grownBy w2 none := gb_step (gb_alloc g1 _) grow2 (fun i e => .inr (own_far own1' i e))
            have hw2 := g2.size
            have Own2 := Lib.hid own2
            clear grow2 own1' own2
            have bk2 : (k : Int) ≤ (n : Int) := by omega
            have bkc : (k : Int) ≤ (c : Int) := by omega
            have bkc2 : k ≤ c := by omega
            have bnc : (n : Int) ≤ (c : Int) := by omega
            go_wp2_with (at_builtin; refine wpList_append_own _ rfl (.tmp 44) (.tmp 47) 73 rfl w.heap.size 3 i0 (.int .i64 0) 1 8 Tryz.underlying73 Hi0.out Hz0.out Hz1.out Hz2.out rfl (by decide) _ (k + 1) _ rfl Own2.out ⟨g, o, none⟩ (n - k) (c - k) (iv (L.drop k)) rfl E3.out (fun j u hu => by rw [List.drop_eq_nil_of_le (by rw [HLn.out]; have := HKN.out; omega)] at hu; simp [iv] at hu) (iv_one _) (by simp only [maxLen]; omega) (by omega) (by omega) ?_; intro v3 w3 own3 grow3 _)
            have g3 : w.grownBy w3 none := gb_step g2 grow3 (fun i e => .inr (own_far Own2.out i e))
            have hlen : (mk L x).length = k + 1 + (n - k) := by rw [Hc.out, List.length_append, List.length_cons, List.length_take, List.length_drop, HLn.out]; omega
            have hiv : iv (L.take k) ++ iv [x] ++ iv (L.drop k) = iv (mk L x) := by rw [Hc.out]; simp [iv]
            rw [hiv] at own3
            obtain ⟨A3, c3, rfl, hil, hle⟩ := own_il own3 hlen
            clear own3 grow3
            go_ret
            rw [hlen]
            exact ⟨A3, c3, rfl, hil, hle, g3⟩
    · obtain ⟨j, rfl⟩ : ∃ j, k = j + 1 := ⟨k - 1, by omega⟩
      obtain ⟨g, o, rfl, hgl, hcc⟩ := H.out.2 (by omega)
      have hcj := hcc j (by omega)
      obtain ⟨y, hy⟩ : ∃ y, L.getD j 0 = y := ⟨_, rfl⟩
      rw [hy] at hcj
      have d1 : decide ((0 : Int) < ((j + 1 : Nat) : Int)) = true := decide_eq_true (by omega)
      have hb : (j : Int) < (n : Int) := by omega
      by_cases hge : x ≤ y
      · have d2 : decide (x ≤ y) = true := decide_eq_true hge
        have HX2 : Hid (∀ i, j ≤ i → i < n → x ≤ L.getD i 0) := fun i h1 h2 => by
          by_cases e : i = j
          · subst e; rw [hy]; exact hge
          · exact HX.out i (by omega) h2
        clear hge hy hcc
        go_wp2_with fail
        go_roundw
        case rel => exact ⟨j, by omega, by go_num, HX2, trivial⟩
        case measure => simp [intOf]
      · have d2 : decide (x ≤ y) = false := decide_eq_false hge
        have HS : Hid (∀ i, i < j + 1 → L.getD i 0 < x) := fun i h => by
          by_cases e : i = j
          · subst e; rw [hy]; omega
          · have := rising_lt Hr.out (show i < j by omega) (by rw [H.out.1]; omega); rw [hy] at this; omega
        clear hge hy hcc hgl
        go_upto_region 4 with fail
        clear d1 d2 hcj
        try simp only [show ((j : Int) + 1) = ((j + 1 : Nat) : Int) from by omega]
        generalize hjk : j + 1 = k at *
        clear hjk hb
        have HM : Hid ((∀ y ∈ L.take k, y < x) ∧ ∀ y ∈ L.drop k, x ≤ y) := by
          refine ⟨fun y hy => ?_, fun y hy => ?_⟩
          · obtain ⟨i, h1, h2, rfl⟩ := in_take hy
            exact HS.out i h1
          · obtain ⟨i, h1, h2, rfl⟩ := in_drop hy
            exact HX.out i h1 (by rw [← H.out.1]; exact h2)
        by_cases hkn : k < n
        · obtain ⟨g, o, hA, hgl, hcc⟩ := H.out.2 (by omega)
          cases hA
          have hck := hcc k hkn
          have HCC := Lib.hid hcc
          clear hcc
          obtain ⟨y2, hy2⟩ : ∃ y, L.getD k 0 = y := ⟨_, rfl⟩
          rw [hy2] at hck
          have d3 : decide (k < n) = true := decide_eq_true hkn
          have d4 : decide ((k : Int) < (n : Int)) = true := decide_eq_true (by omega)
          have bk : (k : Int) < (n : Int) := by omega
          by_cases e : y2 = x
          · subst e
            have f1 : (y2 == y2) = true := by simp
            have Hm : Hid (mk L y2 = L) := mk_has Hr.out (k := k) (by
              have hKL : k < L.length := by rw [H.out.1]; exact hkn
              rw [List.getElem?_eq_getElem hKL, ← hy2, List.getD_eq_getElem?_getD, List.getElem?_eq_getElem hKL]; rfl)
            have HL1 := Lib.hid H.out.1
            clear hy2
            go_wp2_with fail
            go_ret
            rw [Hm.out, HL1.out]
            exact ⟨_, c, rfl, H.out, hc, gb_refl _ _⟩
          · have f1 : (y2 == x) = false := by rw [beq_eq_false_iff_ne]; exact e
            have Hc : Hid (mk L x = L.take k ++ x :: L.drop k) := mk_cut HM.out.1 (fun y hy => by
              have h1 := HM.out.2 y hy
              obtain ⟨i, h2, h3, h4⟩ := in_drop hy
              by_cases e2 : i = k
              · subst e2; rw [hy2] at h4; omega
              · have := rising_lt Hr.out (show k < i by omega) h3; rw [hy2] at this
                have h5 := HX.out k (Nat.le_refl _) hkn
                rw [hy2] at h5; omega)
            clear e hy2
            obtain ⟨i0, hi0, hz0, hz1, hz2⟩ := info_parts int_inf
            have Hi0 := Lib.hid hi0
            have Hz0 := Lib.hid hz0
            have Hz1 := Lib.hid hz1
            have Hz2 := Lib.hid hz2
            have HLn := Lib.hid H.out.1
            clear hi0 hz0 hz1 hz2
            have e1 : (iv (L.take k)).length = k * 1 := by rw [iv_len, List.length_take, HLn.out]; omega
            have E1 := Lib.hid e1
            have e3 : (iv (L.drop k)).length = (n - k) * 1 := by rw [iv_len, List.length_drop, HLn.out]; omega
            have E3 := Lib.hid e3
            clear e1 e3
            go_upto_region 7 with (at_builtin; refine wpList_append_own _ rfl (.tmp 35) (.tmp 38) 73 rfl w.heap.size 3 i0 (.int .i64 0) 1 8 Tryz.underlying73 Hi0.out Hz0.out Hz1.out Hz2.out rfl (by decide) _ 0 _ rfl (own_emptyI w _ _ (Nat.le_refl _)) ⟨g, o, none⟩ k c (iv (L.take k)) rfl E1.out (il_front HLn.out HCC.out hgl (gb_alloc (gb_refl _ _) _)) (iv_one _) (by simp only [maxLen]; omega) (by omega) (by simp) ?_; intro v1 w1 own1 grow1 _)
            have g1 : w.grownBy w1 none := gb_new (gb_alloc (gb_refl _ _) _) grow1 (Nat.le_refl _)
            have own1' : w1.ownsRow w.heap.size 3 1 v1 k (iv (L.take k)) := by have h := own1; rw [Nat.zero_add, List.nil_append] at h; exact h
            obtain ⟨A1, n1, c1, rfl⟩ : ∃ A m c, v1 = .slice A m c := own_slice1 own1
            have hw1 := g1.size
            clear grow1 own1
            go_upto_region 8 with (at_builtin; refine wpList_append_own _ rfl (.tmp 40) (.tmp 42) 73 rfl w.heap.size 3 i0 (.int .i64 0) 1 8 Tryz.underlying73 Hi0.out Hz0.out Hz1.out Hz2.out rfl (by decide) _ k _ rfl (own1'.kept (gb_alloc (gb_refl w1 none) (.cells #[.int .i64 x] 3)) (by cases hv : Value.ownBlock (.slice A1 n1 c1) <;> simp)) ⟨w1.heap.size, 0, none⟩ 1 1 (iv [x]) rfl rfl (one_new _ _ _) (iv_one _) (by simp only [maxLen]; omega) (by omega) (by simp; omega) ?_; intro v2 w2 own2 grow2 _)
            have g2 : w.grownBy w2 none := gb_step (gb_alloc g1 _) grow2 (fun i e => .inr (own_far own1' i e))
            have hw2 := g2.size
            have Own2 := Lib.hid own2
            clear grow2 own1' own2
            have bk2 : (k : Int) ≤ (n : Int) := by omega
            have bkc : (k : Int) < (c : Int) := by omega
            have bkc2 : k < c := by omega
            have bnc : (n : Int) ≤ (c : Int) := by omega
            go_wp2_with (at_builtin; refine wpList_append_own _ rfl (.tmp 44) (.tmp 47) 73 rfl w.heap.size 3 i0 (.int .i64 0) 1 8 Tryz.underlying73 Hi0.out Hz0.out Hz1.out Hz2.out rfl (by decide) _ (k + 1) _ rfl Own2.out ⟨g, o + k, none⟩ (n - k) (c - k) (iv (L.drop k)) rfl E3.out (il_back HLn.out HCC.out hgl g2) (iv_one _) (by simp only [maxLen]; omega) (by omega) (by omega) ?_; intro v3 w3 own3 grow3 _)
            have g3 : w.grownBy w3 none := gb_step g2 grow3 (fun i e => .inr (own_far Own2.out i e))
            have hlen : (mk L x).length = k + 1 + (n - k) := by rw [Hc.out, List.length_append, List.length_cons, List.length_take, List.length_drop, HLn.out]; omega
            have hiv : iv (L.take k) ++ iv [x] ++ iv (L.drop k) = iv (mk L x) := by rw [Hc.out]; simp [iv]
            rw [hiv] at own3
            obtain ⟨A3, c3, rfl, hil, hle⟩ := own_il own3 hlen
            clear own3 grow3
            go_ret
            rw [hlen]
            exact ⟨A3, c3, rfl, hil, hle, g3⟩
        · have hkn2 : k = n := by omega
          have d3 : decide (k < n) = false := decide_eq_false hkn
          have d4 : decide ((k : Int) < (n : Int)) = false := decide_eq_false (by omega)
          have Hc : Hid (mk L x = L.take k ++ x :: L.drop k) := mk_cut HM.out.1 (fun y hy => by
            rw [List.drop_eq_nil_of_le (by rw [H.out.1]; omega)] at hy; cases hy)
          by_cases hn0 : n = 0
          · exact absurd (h0 hn0).1 (by simp)
          · obtain ⟨g, o, hA, hgl, hcc⟩ := H.out.2 (by omega)
            cases hA
            have HCC := Lib.hid hcc
            have HKN := Lib.hid hkn2
            clear hcc hkn2 hkn
            by_cases hkc : k < c
            · skip
              obtain ⟨i0, hi0, hz0, hz1, hz2⟩ := info_parts int_inf
              have Hi0 := Lib.hid hi0
              have Hz0 := Lib.hid hz0
              have Hz1 := Lib.hid hz1
              have Hz2 := Lib.hid hz2
              have HLn := Lib.hid H.out.1
              clear hi0 hz0 hz1 hz2
              have e1 : (iv (L.take k)).length = k * 1 := by rw [iv_len, List.length_take, HLn.out]; omega
              have E1 := Lib.hid e1
              have e3 : (iv (L.drop k)).length = (n - k) * 1 := by rw [iv_len, List.length_drop, HLn.out]; omega
              have E3 := Lib.hid e3
              clear e1 e3
              go_upto_region 7 with (at_builtin; refine wpList_append_own _ rfl (.tmp 35) (.tmp 38) 73 rfl w.heap.size 3 i0 (.int .i64 0) 1 8 Tryz.underlying73 Hi0.out Hz0.out Hz1.out Hz2.out rfl (by decide) _ 0 _ rfl (own_emptyI w _ _ (Nat.le_refl _)) ⟨g, o, none⟩ k c (iv (L.take k)) rfl E1.out (il_front HLn.out HCC.out hgl (gb_alloc (gb_refl _ _) _)) (iv_one _) (by simp only [maxLen]; omega) (by omega) (by simp) ?_; intro v1 w1 own1 grow1 _)
              have g1 : w.grownBy w1 none := gb_new (gb_alloc (gb_refl _ _) _) grow1 (Nat.le_refl _)
              have own1' : w1.ownsRow w.heap.size 3 1 v1 k (iv (L.take k)) := by have h := own1; rw [Nat.zero_add, List.nil_append] at h; exact h
              obtain ⟨A1, n1, c1, rfl⟩ : ∃ A m c, v1 = .slice A m c := own_slice1 own1
              have hw1 := g1.size
              clear grow1 own1
              go_upto_region 8 with (at_builtin; refine wpList_append_own _ rfl (.tmp 40) (.tmp 42) 73 rfl w.heap.size 3 i0 (.int .i64 0) 1 8 Tryz.underlying73 Hi0.out Hz0.out Hz1.out Hz2.out rfl (by decide) _ k _ rfl (own1'.kept (gb_alloc (gb_refl w1 none) (.cells #[.int .i64 x] 3)) (by cases hv : Value.ownBlock (.slice A1 n1 c1) <;> simp)) ⟨w1.heap.size, 0, none⟩ 1 1 (iv [x]) rfl rfl (one_new _ _ _) (iv_one _) (by simp only [maxLen]; omega) (by omega) (by simp; omega) ?_; intro v2 w2 own2 grow2 _)
              have g2 : w.grownBy w2 none := gb_step (gb_alloc g1 _) grow2 (fun i e => .inr (own_far own1' i e))
              have hw2 := g2.size
              have Own2 := Lib.hid own2
              clear grow2 own1' own2
              have bk2 : (k : Int) ≤ (n : Int) := by omega
              have bkc : (k : Int) < (c : Int) := by omega
              have bkc2 : k < c := by omega
              have bnc : (n : Int) ≤ (c : Int) := by omega
              go_wp2_with (at_builtin; refine wpList_append_own _ rfl (.tmp 44) (.tmp 47) 73 rfl w.heap.size 3 i0 (.int .i64 0) 1 8 Tryz.underlying73 Hi0.out Hz0.out Hz1.out Hz2.out rfl (by decide) _ (k + 1) _ rfl Own2.out ⟨g, o + k, none⟩ (n - k) (c - k) (iv (L.drop k)) rfl E3.out (il_back HLn.out HCC.out hgl g2) (iv_one _) (by simp only [maxLen]; omega) (by omega) (by omega) ?_; intro v3 w3 own3 grow3 _)
              have g3 : w.grownBy w3 none := gb_step g2 grow3 (fun i e => .inr (own_far Own2.out i e))
              have hlen : (mk L x).length = k + 1 + (n - k) := by rw [Hc.out, List.length_append, List.length_cons, List.length_take, List.length_drop, HLn.out]; omega
              have hiv : iv (L.take k) ++ iv [x] ++ iv (L.drop k) = iv (mk L x) := by rw [Hc.out]; simp [iv]
              rw [hiv] at own3
              obtain ⟨A3, c3, rfl, hil, hle⟩ := own_il own3 hlen
              clear own3 grow3
              go_ret
              rw [hlen]
              exact ⟨A3, c3, rfl, hil, hle, g3⟩
            · have hkc2 : ¬ ((k : Int) < (c : Int)) := by omega
              obtain ⟨i0, hi0, hz0, hz1, hz2⟩ := info_parts int_inf
              have Hi0 := Lib.hid hi0
              have Hz0 := Lib.hid hz0
              have Hz1 := Lib.hid hz1
              have Hz2 := Lib.hid hz2
              have HLn := Lib.hid H.out.1
              clear hi0 hz0 hz1 hz2
              have e1 : (iv (L.take k)).length = k * 1 := by rw [iv_len, List.length_take, HLn.out]; omega
              have E1 := Lib.hid e1
              have e3 : (iv (L.drop k)).length = (n - k) * 1 := by rw [iv_len, List.length_drop, HLn.out]; omega
              have E3 := Lib.hid e3
              clear e1 e3
              go_upto_region 7 with (at_builtin; refine wpList_append_own _ rfl (.tmp 35) (.tmp 38) 73 rfl w.heap.size 3 i0 (.int .i64 0) 1 8 Tryz.underlying73 Hi0.out Hz0.out Hz1.out Hz2.out rfl (by decide) _ 0 _ rfl (own_emptyI w _ _ (Nat.le_refl _)) ⟨g, o, none⟩ k c (iv (L.take k)) rfl E1.out (il_front HLn.out HCC.out hgl (gb_alloc (gb_refl _ _) _)) (iv_one _) (by simp only [maxLen]; omega) (by omega) (by simp) ?_; intro v1 w1 own1 grow1 _)
              have g1 : w.grownBy w1 none := gb_new (gb_alloc (gb_refl _ _) _) grow1 (Nat.le_refl _)
              have own1' : w1.ownsRow w.heap.size 3 1 v1 k (iv (L.take k)) := by have h := own1; rw [Nat.zero_add, List.nil_append] at h; exact h
              obtain ⟨A1, n1, c1, rfl⟩ : ∃ A m c, v1 = .slice A m c := own_slice1 own1
              have hw1 := g1.size
              clear grow1 own1
              go_upto_region 8 with (at_builtin; refine wpList_append_own _ rfl (.tmp 40) (.tmp 42) 73 rfl w.heap.size 3 i0 (.int .i64 0) 1 8 Tryz.underlying73 Hi0.out Hz0.out Hz1.out Hz2.out rfl (by decide) _ k _ rfl (own1'.kept (gb_alloc (gb_refl w1 none) (.cells #[.int .i64 x] 3)) (by cases hv : Value.ownBlock (.slice A1 n1 c1) <;> simp)) ⟨w1.heap.size, 0, none⟩ 1 1 (iv [x]) rfl rfl (one_new _ _ _) (iv_one _) (by simp only [maxLen]; omega) (by omega) (by simp; omega) ?_; intro v2 w2 own2 grow2 _)
              have g2 : w.grownBy w2 none := gb_step (gb_alloc g1 _) grow2 (fun i e => .inr (own_far own1' i e))
              have hw2 := g2.size
              have Own2 := Lib.hid own2
              clear grow2 own1' own2
              have bk2 : (k : Int) ≤ (n : Int) := by omega
              have bkc : (k : Int) ≤ (c : Int) := by omega
              have bkc2 : k ≤ c := by omega
              have bnc : (n : Int) ≤ (c : Int) := by omega
              go_wp2_with (at_builtin; refine wpList_append_own _ rfl (.tmp 44) (.tmp 47) 73 rfl w.heap.size 3 i0 (.int .i64 0) 1 8 Tryz.underlying73 Hi0.out Hz0.out Hz1.out Hz2.out rfl (by decide) _ (k + 1) _ rfl Own2.out ⟨g, o, none⟩ (n - k) (c - k) (iv (L.drop k)) rfl E3.out (fun j u hu => by rw [List.drop_eq_nil_of_le (by rw [HLn.out]; have := HKN.out; omega)] at hu; simp [iv] at hu) (iv_one _) (by simp only [maxLen]; omega) (by omega) (by omega) ?_; intro v3 w3 own3 grow3 _)
              have g3 : w.grownBy w3 none := gb_step g2 grow3 (fun i e => .inr (own_far Own2.out i e))
              have hlen : (mk L x).length = k + 1 + (n - k) := by rw [Hc.out, List.length_append, List.length_cons, List.length_take, List.length_drop, HLn.out]; omega
              have hiv : iv (L.take k) ++ iv [x] ++ iv (L.drop k) = iv (mk L x) := by rw [Hc.out]; simp [iv]
              rw [hiv] at own3
              obtain ⟨A3, c3, rfl, hil, hle⟩ := own_il own3 hlen
              clear own3 grow3
              go_ret
              rw [hlen]
              exact ⟨A3, c3, rfl, hil, hle, g3⟩
end Go.Proofs.YthijiefopcnclaaGreatDoor.Dt

namespace Go.Proofs.YthijiefopcnclaaGreatDoor.Dt
open Go Go.RowKit Go.Proofs.YthijiefopcnclaaGreatDoor.Mm Go.Proofs.YthijiefopcnclaaGreatDoor.Td

def numsV (L : List Int) : Td.Spec := fun W v => ∃ A c, v = .slice A L.length c ∧ IL W A L.length L ∧ L.length ≤ c
theorem numsV_stays {L : List Int} : Stays (fun a b => a.grownBy b none) (numsV L) := fun _ _ _ h ⟨A, c, e, hr, hl⟩ => ⟨A, c, e, hr.keep h, hl⟩
theorem places_bnd (dev : Int) (a b : List Rn) (ha : ∀ r ∈ a, Ok r) (hb : ∀ r ∈ b, Ok r) : ∀ x ∈ pts dev (pts dev [] a) b, 1 ≤ x ∧ x ≤ 4503599627370497 := fun x hx => by
  rw [pts_mem, pts_mem] at hx
  rcases hx with (hx | ⟨r, hr, _, h⟩) | ⟨r, hr, _, h⟩
  · cases hx
  · obtain ⟨_, _, k3, k4, k5⟩ := ha r hr; omega
  · obtain ⟨_, _, k3, k4, k5⟩ := hb r hr; omega
theorem ints3 (x y z : Int) : ∀ u ∈ [Value.int .i64 x, .int .i64 y, .int .i64 z], u.oneCell' = true := by
  intro u hu
  simp only [List.mem_cons, List.not_mem_nil, or_false] at hu
  obtain rfl | rfl | rfl := hu <;> rfl
theorem rv_set (l : List Rn) (r : Rn) (t : Int) : (rv (l ++ [r])).set (l.length * 3 + 2) (.int .i64 t) = rv (l ++ [⟨r.d, r.f, t⟩]) := by
  rw [rv_append, rv_append, List.set_append_right _ _ (by rw [rv_len]; omega), rv_len, show l.length * 3 + 2 - l.length * 3 = 2 by omega]; rfl
def meets (rs : List Rn) (x : Int) : Bool := match rs with | [] => false | r :: _ => r.t == x - 1
theorem step_no {dev x y : Int} {p : Int → Bool} {rs : List Rn} (h : p x = !true) : step dev p rs x y = rs := by unfold step; rw [h]; rfl
theorem step_yes {dev x y : Int} {p : Int → Bool} {r : Rn} {rs : List Rn} (h : p x = !false) (hm : r.t = x - 1) : step dev p (r :: rs) x y = ⟨r.d, r.f, y - 1⟩ :: rs := by unfold step; rw [h, Bool.not_false, if_pos rfl]; simp only []; rw [if_pos hm]
theorem step_new {dev x y : Int} {p : Int → Bool} {rs : List Rn} (h : p x = !false) (hm : meets rs x = false) : step dev p rs x y = ⟨dev, x, y - 1⟩ :: rs := by
  unfold step; rw [h, Bool.not_false, if_pos rfl]
  cases rs with
  | nil => rfl
  | cons r rs =>
    simp only []
    have : ¬ r.t = x - 1 := by have h : (r.t == x - 1) = false := hm; exact beq_eq_false_iff_ne.1 h
    rw [if_neg this]
attribute [local go_sem] Td.upon_value Td.upon_skip Td.upon_enter Td.upon_row Td.look_tmp Td.look_const Td.look_func Td.look_global
set_option maxHeartbeats 8000000 in
set_option maxRecDepth 100000 in
theorem mix_any (dev : Nat) (A B : Option Addr) (n c m d : Nat) (a b : List Rn) (alone : Bool) (w : World) (ha : RL w A n a) (hb : RL w B m b) (oa : ∀ r ∈ a, Ok r) (ob : ∀ r ∈ b, Ok r) (hn : n ≤ 100000) (hm : m ≤ 100000) :
    Calls Tryz.prog 87 #[.int .i64 (dev : Int), .slice A n c, .slice B m d, .bool alone] w (Runs (mixR (dev : Int) a b alone) w) := by
  have Ha := Lib.hid ha
  have Hb := Lib.hid hb
  have Oa := Lib.hid oa
  have Ob := Lib.hid ob
  obtain ⟨i0, hi0, hz0, hz1, hz2⟩ := info_parts run_inf
  have Hi0 := Lib.hid hi0
  have Hz0 := Lib.hid hz0
  have Hz1 := Lib.hid hz1
  have Hz2 := Lib.hid hz2
  clear hi0 hz0 hz1 hz2
  clear ha hb oa ob
  go_enter Tryz.func87, Tryz.ntmps87
  go_wp2_with fail
  go_loopw [10, 9] (fun i v wr => ∃ (k : Nat) (A1 : Option Addr) (c1 : Nat) (L : List Int), k ≤ n ∧ i = .int .i64 k ∧ Hid (L = pts (dev : Int) [] (a.take k)) ∧ v = .slice A1 L.length c1 ∧ IL wr A1 L.length L ∧ Hid (L.length = 0 → A1 = none ∧ c1 = 0) ∧ Hid (L.length ≤ c1) ∧ Hid (Rising L) ∧ L.length ≤ 0 + 2 * k ∧ w.grownBy wr none) (fun i _ _ => n - (intOf i).toNat)
  case atStart => exact ⟨0, none, 0, [], Nat.zero_le _, rfl, rfl, rfl, IL.none _, fun _ => ⟨rfl, rfl⟩, Nat.le_refl _, List.Pairwise.nil, Nat.zero_le _, gb_refl _ _⟩
  case round =>
    obtain ⟨k, A1, c1, L, hk, rfl, HL, rfl, hIL, H01, Hc1, HRi, hLk, hg⟩ := hrel
    by_cases hlt : k < n
    · have d1 : decide (k < n) = true := decide_eq_true hlt
      have d2 : decide ((k : Int) < (n : Int)) = true := decide_eq_true (by omega)
      have bk : (k : Int) < (n : Int) := by omega
      obtain ⟨g, o, rfl, hgl, hcc⟩ := (Ha.out.keep hg).2 (by omega)
      obtain ⟨x, hx⟩ : ∃ x, a[k]? = some x := ⟨_, List.getElem?_eq_getElem (by rw [Ha.out.1]; exact hlt)⟩
      obtain ⟨h0, h1, h2⟩ := hcc k x hx
      have HC1 : Hid (∀ W, wr.grownBy W none → W.cell? ⟨g, o + k * 3 + 1, none⟩ = some (.int .i64 x.f)) := fun W hW => (World.cell?_of_block (a := ⟨g, o + k * 3 + 1, none⟩) (hW.block g hgl (by simp))).trans h1
      have HC2 : Hid (∀ W, wr.grownBy W none → W.cell? ⟨g, o + k * 3 + 2, none⟩ = some (.int .i64 x.t)) := fun W hW => (World.cell?_of_block (a := ⟨g, o + k * 3 + 2, none⟩) (hW.block g hgl (by simp))).trans h2
      have hxo := Oa.out x (List.mem_of_getElem? hx)
      have hw : IntKind.i64.wrap (x.t + 1) = x.t + 1 := by obtain ⟨_, _, k3, k4, k5⟩ := hxo; rw [IntKind.wrap_i64]; omega
      have Hmore := Lib.hid (pts_more (dev : Int) [] hx)
      have HIL := Lib.hid hIL
      have Hlen : Hid ((mk L x.f).length ≤ 1000000) := by show _ ≤ _; have := mk_len_le L x.f; omega
      have hl2 : (mk (mk L x.f) (x.t + 1)).length ≤ L.length + 2 := by have h1 := mk_len_le (mk L x.f) (x.t + 1); have h2 := mk_len_le L x.f; omega
      clear hcc hx hxo h1 h2 hIL
      by_cases e1 : x.d = (dev : Int)
      · have f1 : (x.d == (dev : Int)) = true := by rw [e1]; simp
        have Hn : Hid (mk (mk L x.f) (x.t + 1) = pts (dev : Int) [] (a.take (k + 1))) := by show _ = _; rw [Hmore.out, if_pos e1, ← HL.out]
        clear e1
        go_upto_region 6 with fail
        clear h0 f1
        have hc1' := fun W hW => HC1.out W hW
        have hc2' := fun W hW => HC2.out W hW
        have hgd := fun y => (propext ⟨fun h => ⟨h.os, h.tape, h.output, h.size, h.block⟩, fun h => gb_drew h⟩ : wr.grownBy (World.drew y) none = wr.grownBy y none)
        have r0 := gb_refl wr none
        go_region_with (first
          | (go_at_call 101; with_reducible refine (mark_loop A1 L.length c1 L x.f _ (HIL.out.keep (by repeat first | exact gb_refl _ _ | apply gb_drew)) HRi.out (by omega) Hc1.out H01.out).mono ?_; rintro e y1 ⟨A2, c2, rfl, hil2, hle2, gy1⟩; have gz1 : wr.grownBy y1 none := gb_none (by repeat first | exact gb_refl _ _ | apply gb_drew) gy1)
          | (go_at_call 101; with_reducible refine (mark_loop A2 (mk L x.f).length c2 (mk L x.f) (x.t + 1) _ (hil2.keep (by repeat first | exact gb_refl _ _ | apply gb_drew)) (mk_rising _ HRi.out) Hlen.out hle2 (fun h => absurd h (by have := mk_pos L x.f; omega))).mono ?_; rintro e y2 ⟨A3, c3, rfl, hil3, hle3, gy2⟩))
        all_goals
          have g3 : w.grownBy y2 none := gb_none (by repeat first | exact gb_none hg gz1 | apply gb_drew) gy2
          have Hil3 := Lib.hid hil3
          clear hil3 hc1' hc2' hgd r0
          go_wp2_with fail
          go_roundw
          case rel => exact ⟨k + 1, A3, c3, mk (mk L x.f) (x.t + 1), by omega, by go_num, Hn, rfl, Hil3.out, (fun h => absurd h (by have := mk_pos (mk L x.f) (x.t + 1); omega)), hle3, mk_rising _ (mk_rising _ HRi.out), by omega, g3⟩
          case measure => simp [intOf]; omega
      · have f1 : (x.d == (dev : Int)) = false := by rw [beq_eq_false_iff_ne]; exact e1
        have Hn : Hid (L = pts (dev : Int) [] (a.take (k + 1))) := by show _ = _; rw [Hmore.out, if_neg e1, HL.out]
        clear e1
        go_wp2_with fail
        go_roundw
        case rel => exact ⟨k + 1, A1, c1, L, by omega, by go_num, Hn, rfl, HIL.out, H01, Hc1, HRi, by omega, hg⟩
        case measure => simp [intOf]; omega
    · have hkn : k = n := by omega
      subst hkn
      have d1 : decide (k < k) = false := by simp
      have d2 : decide ((k : Int) < (k : Int)) = false := by simp
      have HIL := Lib.hid hIL
      clear hIL
      go_wp2_with fail
      have HLa : Hid (L = pts (dev : Int) [] a) := by
        show _ = _
        have h := HL.out
        rwa [List.take_of_length_le (by rw [Ha.out.1]; exact Nat.le_refl _)] at h
      clear d1 d2 HL hlt hk
      obtain ⟨N1, hN1⟩ : ∃ N1, 2 * k = N1 := ⟨_, rfl⟩
      have hN2 : N1 ≤ 200000 := by omega
      have hN3 : L.length ≤ N1 := by omega
      clear hN1 hLk
      go_loopw [11, 9] (fun i v wr => ∃ (k : Nat) (A1 : Option Addr) (c1 : Nat) (L : List Int), k ≤ m ∧ i = .int .i64 k ∧ Hid (L = pts (dev : Int) (pts (dev : Int) [] a) (b.take k)) ∧ v = .slice A1 L.length c1 ∧ IL wr A1 L.length L ∧ Hid (L.length = 0 → A1 = none ∧ c1 = 0) ∧ Hid (L.length ≤ c1) ∧ Hid (Rising L) ∧ L.length ≤ N1 + 2 * k ∧ w.grownBy wr none) (fun i _ _ => m - (intOf i).toNat)
      case atStart => exact ⟨0, A1, c1, L, Nat.zero_le _, rfl, (by show _ = _; rw [HLa.out]; rfl), rfl, HIL.out, H01, Hc1, HRi, by omega, hg⟩
      case round =>
        clear hg HIL H01 Hc1 HRi
        obtain ⟨k, A1, c1, L, hk, rfl, HL, rfl, hIL, H01, Hc1, HRi, hLk, hg⟩ := hrel
        by_cases hlt : k < m
        · have d1 : decide (k < m) = true := decide_eq_true hlt
          have d2 : decide ((k : Int) < (m : Int)) = true := decide_eq_true (by omega)
          have bk : (k : Int) < (m : Int) := by omega
          obtain ⟨g, o, rfl, hgl, hcc⟩ := (Hb.out.keep hg).2 (by omega)
          obtain ⟨x, hx⟩ : ∃ x, b[k]? = some x := ⟨_, List.getElem?_eq_getElem (by rw [Hb.out.1]; exact hlt)⟩
          obtain ⟨h0, h1, h2⟩ := hcc k x hx
          have HC1 : Hid (∀ W, wr.grownBy W none → W.cell? ⟨g, o + k * 3 + 1, none⟩ = some (.int .i64 x.f)) := fun W hW => (World.cell?_of_block (a := ⟨g, o + k * 3 + 1, none⟩) (hW.block g hgl (by simp))).trans h1
          have HC2 : Hid (∀ W, wr.grownBy W none → W.cell? ⟨g, o + k * 3 + 2, none⟩ = some (.int .i64 x.t)) := fun W hW => (World.cell?_of_block (a := ⟨g, o + k * 3 + 2, none⟩) (hW.block g hgl (by simp))).trans h2
          have hxo := Ob.out x (List.mem_of_getElem? hx)
          have hw : IntKind.i64.wrap (x.t + 1) = x.t + 1 := by obtain ⟨_, _, k3, k4, k5⟩ := hxo; rw [IntKind.wrap_i64]; omega
          have Hmore := Lib.hid (pts_more (dev : Int) (pts (dev : Int) [] a) hx)
          have HIL := Lib.hid hIL
          have Hlen : Hid ((mk L x.f).length ≤ 1000000) := by show _ ≤ _; have := mk_len_le L x.f; omega
          have hl2 : (mk (mk L x.f) (x.t + 1)).length ≤ L.length + 2 := by have h1 := mk_len_le (mk L x.f) (x.t + 1); have h2 := mk_len_le L x.f; omega
          clear hcc hx hxo h1 h2 hIL
          by_cases e1 : x.d = (dev : Int)
          · have f1 : (x.d == (dev : Int)) = true := by rw [e1]; simp
            have Hn : Hid (mk (mk L x.f) (x.t + 1) = pts (dev : Int) (pts (dev : Int) [] a) (b.take (k + 1))) := by show _ = _; rw [Hmore.out, if_pos e1, ← HL.out]
            clear e1
            go_upto_region 11 with fail
            clear h0 f1
            have hc1' := fun W hW => HC1.out W hW
            have hc2' := fun W hW => HC2.out W hW
            have hgd := fun y => (propext ⟨fun h => ⟨h.os, h.tape, h.output, h.size, h.block⟩, fun h => gb_drew h⟩ : wr.grownBy (World.drew y) none = wr.grownBy y none)
            have r0 := gb_refl wr none
            go_region_with (first
              | (go_at_call 101; with_reducible refine (mark_loop A1 L.length c1 L x.f _ (HIL.out.keep (by repeat first | exact gb_refl _ _ | apply gb_drew)) HRi.out (by omega) Hc1.out H01.out).mono ?_; rintro e y1 ⟨A2, c2, rfl, hil2, hle2, gy1⟩; have gz1 : wr.grownBy y1 none := gb_none (by repeat first | exact gb_refl _ _ | apply gb_drew) gy1)
              | (go_at_call 101; with_reducible refine (mark_loop A2 (mk L x.f).length c2 (mk L x.f) (x.t + 1) _ (hil2.keep (by repeat first | exact gb_refl _ _ | apply gb_drew)) (mk_rising _ HRi.out) Hlen.out hle2 (fun h => absurd h (by have := mk_pos L x.f; omega))).mono ?_; rintro e y2 ⟨A3, c3, rfl, hil3, hle3, gy2⟩))
            all_goals
              have g3 : w.grownBy y2 none := gb_none (by repeat first | exact gb_none hg gz1 | apply gb_drew) gy2
              have Hil3 := Lib.hid hil3
              clear hil3 hc1' hc2' hgd r0
              go_wp2_with fail
              go_roundw
              case rel => exact ⟨k + 1, A3, c3, mk (mk L x.f) (x.t + 1), by omega, by go_num, Hn, rfl, Hil3.out, (fun h => absurd h (by have := mk_pos (mk L x.f) (x.t + 1); omega)), hle3, mk_rising _ (mk_rising _ HRi.out), by omega, g3⟩
              case measure => simp [intOf]; omega
          · have f1 : (x.d == (dev : Int)) = false := by rw [beq_eq_false_iff_ne]; exact e1
            have Hn : Hid (L = pts (dev : Int) (pts (dev : Int) [] a) (b.take (k + 1))) := by show _ = _; rw [Hmore.out, if_neg e1, HL.out]
            clear e1
            go_wp2_with fail
            go_roundw
            case rel => exact ⟨k + 1, A1, c1, L, by omega, by go_num, Hn, rfl, HIL.out, H01, Hc1, HRi, by omega, hg⟩
            case measure => simp [intOf]; omega
        · have hkn : k = m := by omega
          subst hkn
          have d1 : decide (k < k) = false := by simp
          have d2 : decide ((k : Int) < (k : Int)) = false := by simp
          have HIL := Lib.hid hIL
          clear hIL
          go_wp2_with fail
          have HLb : Hid (L = pts (dev : Int) (pts (dev : Int) [] a) b) := by
            show _ = _
            have h := HL.out
            rwa [List.take_of_length_le (by rw [Hb.out.1]; exact Nat.le_refl _)] at h
          have HB : Hid (∀ x ∈ L, 1 ≤ x ∧ x ≤ 4503599627370497) := by show ∀ x ∈ L, _; rw [HLb.out]; exact places_bnd _ _ _ Oa.out Ob.out
          have Hend : Hid (mixR (dev : Int) a b alone = (go (dev : Int) (keep a b alone (dev : Int)) [] L).reverse) := by show _ = _; rw [HLb.out]; rfl
          have Hn2 : Hid (L.length ≤ 400000) := by show _ ≤ _; omega
          have HG := Lib.hid hg
          have Hlt2 : Hid (L.length - L.length = 0) := Nat.sub_self _
          clear d1 d2 HL hlt hk hLk hN3 hN2 H01 Hc1 HRi hg
          obtain ⟨W3, rfl⟩ : ∃ W3, W3 = wr := ⟨_, rfl⟩
          go_loopw [13, 12] (fun i v wr => ∃ (q N : Nat) (rs : List Rn), q ≤ L.length ∧ i = .int .i64 q ∧ Hid (go (dev : Int) (keep a b alone (dev : Int)) [] L = go (dev : Int) (keep a b alone (dev : Int)) rs (L.drop q)) ∧ Hid (N = rs.length) ∧ wr.ownsRow W3.heap.size 50 3 v N (rv rs.reverse) ∧ Hid (N = 0 → v = .slice none 0 0) ∧ N ≤ q ∧ W3.grownBy wr none) (fun i _ _ => L.length - (intOf i).toNat)
          case atStart => exact ⟨0, 0, [], Nat.zero_le _, rfl, rfl, rfl, World.ownsRow_nil _ _ _ _, fun _ => rfl, Nat.zero_le _, gb_refl _ _⟩
          case round =>
            obtain ⟨q, N, rs, hq, rfl, HD, HN, hown, HV, hNq, hg⟩ := hrel
            by_cases hlt : q + 1 < L.length
            · have d1 : decide ((q : Int) + 1 < (L.length : Int)) = true := decide_eq_true (by omega)
              have b1 : (q : Int) + 1 < (L.length : Int) := by omega
              have b2 : (q : Int) < (L.length : Int) := by omega
              have lb : (L.length : Int) ≤ 400000 := by have := Hn2.out; omega
              obtain ⟨g, o, rfl, hgl, hcc⟩ := HIL.out.2 (by omega)
              obtain ⟨x, Hx⟩ : ∃ x, Hid (L[q]? = some x) := ⟨_, List.getElem?_eq_getElem (by omega)⟩
              obtain ⟨y, Hy⟩ : ∃ y, Hid (L[q + 1]? = some y) := ⟨_, List.getElem?_eq_getElem hlt⟩
              have HCx : Hid (∀ W, W3.grownBy W none → W.cell? ⟨g, o + q, none⟩ = some (.int .i64 x)) := fun W hW => by
                rw [World.cell?_of_block (a := ⟨g, o + q, none⟩) (hW.block g hgl (by simp)), hcc q (by omega), List.getD_eq_getElem?_getD, Hx.out]; rfl
              have HCy : Hid (∀ W, W3.grownBy W none → W.cell? ⟨g, o + (q + 1), none⟩ = some (.int .i64 y)) := fun W hW => by
                rw [World.cell?_of_block (a := ⟨g, o + (q + 1), none⟩) (hW.block g hgl (by simp)), hcc (q + 1) (by omega), List.getD_eq_getElem?_getD, Hy.out]; rfl
              have cx := HCx.out wr hg
              have bx := HB.out x (List.mem_of_getElem? Hx.out)
              have bY := HB.out y (List.mem_of_getElem? Hy.out)
              have Hnext := Lib.hid (go_next (dev : Int) (keep a b alone (dev : Int)) rs Hx.out Hy.out)
              have Hcc := Lib.hid hcc
              clear hcc
              go_upto_region 17 with fail
              obtain ⟨W4, hW4⟩ : ∃ W4, wr.alloc (.cells #[.int .i64 (dev : Int), .int .i64 x] 44) = W4 := ⟨_, rfl⟩
              have hr4 : Row W4 wr.heap.size 44 #[.int .i64 (dev : Int), .int .i64 x] := by rw [← hW4]; exact Row.new _ _ _
              have HD0 : Hid (∀ W, W4.grownBy W none → W.cell? ⟨wr.heap.size, 0, none⟩ = some (.int .i64 (dev : Int))) := fun W hW => (hr4.kept hW (by simp)).at_ (i := 0) rfl
              have HD1 : Hid (∀ W, W4.grownBy W none → W.cell? ⟨wr.heap.size, 1, none⟩ = some (.int .i64 x)) := fun W hW => (hr4.kept hW (by simp)).at_ (i := 1) rfl
              have hg4 : W3.grownBy W4 none := by rw [← hW4]; exact gb_alloc hg _
              have Hown4 : Hid (W4.ownsRow W3.heap.size 50 3 u12 N (rv rs.reverse)) := by rw [← hW4]; exact hown.alloc _
              have hS : W3.heap.size ≤ wr.heap.size := hg.size
              rw [hW4]
              clear hW4 hr4 hown hg cx
              generalize wr.heap.size = D4 at *
              have Hg4 := Lib.hid hg4
              have gA : Hid (w.grownBy W4 none) := gb_none HG.out hg4
              clear hg4
              apply wp_region_told (le := fun a b => a.grownBy b none) [isV _, isV _, isV _, isV _, isV _, isV _, isV _, isV _]
              case hn => rfl
              case hm => kernel_rfl
              case hB => kernel_rfl
              case ht => exact fun _ _ _ h k => gb_none h k
              case hw => exact gb_drew (gb_refl _ _)
              -- 0: ref.go:63 move
              apply told_is
              · intro W f hW hE h0 K hK
                have e1 := h0 1 (by kernel_rfl)
                conv at e1 => rhs; whnf
                clear hE h0
                refine yes_of (want_free rfl) ?_
                go_simp; exact hK _ _ (gb_refl _ _) rfl
              -- 1: ref.go:63 load
              apply told_is
              · intro W f hW hE h0 K hK
                have e14 := h0 14 (by kernel_rfl)
                conv at e14 => rhs; whnf
                clear hE h0
                refine yes_of (want_free rfl) ?_
                have hc0 := HD0.out W hW
                have hc1 := HD1.out W hW
                go_simp; exact hK _ _ (gb_refl _ _) rfl
              -- 2: ref.go:63 call
              apply told_is
              · intro W f hW hE h0 K hK
                have e84 : f 84 = _ := hE 1 84 _ rfl (by kernel_rfl)
                have e85 : f 85 = _ := hE 0 85 _ rfl (by kernel_rfl)
                clear hE h0
                refine yes_of (want_free rfl) ?_
                go_simp
                refine (refHas_any _ _ _ a (dev : Int) x _ (Ha.out.keep (gb_none gA.out hW)) (by omega)).mono ?_
                rintro e w1 ⟨rfl, g⟩
                exact ⟨_, rfl, hK _ _ g rfl⟩
              -- 3: ref.go:63 move
              apply told_is
              · intro W f hW hE h0 K hK
                have e2 := h0 2 (by kernel_rfl)
                conv at e2 => rhs; whnf
                clear hE h0
                refine yes_of (want_free rfl) ?_
                go_simp; exact hK _ _ (gb_refl _ _) rfl
              -- 4: ref.go:63 load
              apply told_is
              · intro W f hW hE h0 K hK
                have e14 := h0 14 (by kernel_rfl)
                conv at e14 => rhs; whnf
                clear hE h0
                refine yes_of (want_free rfl) ?_
                have hc0 := HD0.out W hW
                have hc1 := HD1.out W hW
                go_simp; exact hK _ _ (gb_refl _ _) rfl
              -- 5: ref.go:63 call
              apply told_is
              · intro W f hW hE h0 K hK
                have e87 : f 87 = _ := hE 1 87 _ rfl (by kernel_rfl)
                have e88 : f 88 = _ := hE 0 88 _ rfl (by kernel_rfl)
                clear hE h0
                refine yes_of (want_free rfl) ?_
                go_simp
                refine (refHas_any _ _ _ b (dev : Int) x _ (Hb.out.keep (gb_none gA.out hW)) (by omega)).mono ?_
                rintro e w1 ⟨rfl, g⟩
                exact ⟨_, rfl, hK _ _ g rfl⟩
              -- 6: ref.go:63 assign
              apply told_is
              · intro W f hW hE h0 K hK
                have e86 : f 86 = _ := hE 3 86 _ rfl (by kernel_rfl)
                clear hE h0
                refine yes_of (want_free rfl) ?_
                go_simp; exact hK _ _ (gb_refl _ _) rfl
              -- 7: ref.go:63 assign
              apply told_is
              · intro W f hW hE h0 K hK
                have e89 : f 89 = _ := hE 1 89 _ rfl (by kernel_rfl)
                clear hE h0
                refine yes_of (want_free rfl) ?_
                go_simp; exact hK _ _ (gb_refl _ _) rfl
              intro W f hW hA
              simp only [lexIn, Act.put, List.setIfInBounds_toArray, List.set_cons_zero, List.set_cons_succ]
              have e15 : f 15 = _ := hA 1 (some 15) _ rfl
              rw [e15]
              have e16 : f 16 = _ := hA 0 (some 16) _ rfl
              rw [e16]
              clear hA
              have Hkx : Hid (keep a b alone (dev : Int) x = if alone = true then hasB a (dev : Int) x && !hasB b (dev : Int) x else hasB a (dev : Int) x || hasB b (dev : Int) x) := by show _ = _; rfl
              have Hown5 : Hid (W.ownsRow W3.heap.size 50 3 u12 N (rv rs.reverse)) := Hown4.out.kept hW (by cases hv : Value.ownBlock _ with | none => exact .inl rfl | some q => exact .inr (by simp))
              have Hg5 : Hid (W3.grownBy W none) := gb_none Hg4.out hW
              clear e15 e16 hW Hown4 Hg4 gA HD0 HD1
              generalize hasB a (dev : Int) x = xa at *
              generalize hasB b (dev : Int) x = xb at *
              obtain ⟨kb, Hkb⟩ : ∃ kb : Bool, Hid (keep a b alone (dev : Int) x = !kb) := ⟨!keep a b alone (dev : Int) x, by show _ = _; rw [Bool.not_not]⟩
              go_upto_region 19 with fail
              go_cut [105] (fun v wx => v = .bool kb ∧ W = wx)
              case first =>
                have hk2 := Hkx.out
                rw [Hkb.out] at hk2
                have hk3 : kb = if alone = true then !(xa && !xb) else !(xa || xb) := by cases kb <;> cases alone <;> cases xa <;> cases xb <;> first | rfl | exact absurd hk2 (by decide)
                clear hk2 Hkx Hkb
                cases alone <;> cases xa <;> cases xb
                all_goals
                  first
                  | (have hk4 : kb = true := hk3.trans rfl
                     clear hk3
                     subst hk4
                     go_wp2_with fail
                     go_meet
                     exact ⟨rfl, rfl⟩)
                  | (have hk4 : kb = false := hk3.trans rfl
                     clear hk3
                     subst hk4
                     go_wp2_with fail
                     go_meet
                     exact ⟨rfl, rfl⟩)
              case rest =>
                obtain ⟨rfl, rfl⟩ := hcut
                clear Hkx
                cases kb with
                | true =>
                  go_wp2_with fail
                  go_roundw
                  case rel => exact ⟨q + 1, N, rs, by omega, by go_num, (by show _ = _; rw [HD.out, Hnext.out, step_no Hkb.out]), HN, Hown5.out, HV, by omega, Hg5.out⟩
                  case measure => simp [intOf]; omega
                | false =>
                  obtain ⟨tb, Htb⟩ : ∃ tb : Bool, Hid (tb = meets rs x) := ⟨_, rfl⟩
                  have w1 : IntKind.i64.wrap (x - 1) = x - 1 := by rw [IntKind.wrap_i64]; omega
                  have cx := HCx.out W Hg5.out
                  go_upto_region 20 with fail
                  go_cut [122] (fun v wx => v = .bool tb ∧ W.grownBy wx none)
                  case first =>
                    by_cases hN0 : N = 0
                    · subst hN0
                      have hu := HV.out rfl
                      subst hu
                      obtain rfl : rs = [] := List.eq_nil_of_length_eq_zero HN.out.symm
                      obtain rfl : tb = false := Htb.out
                      go_wp2_with fail
                      go_quiet (fail)
                      go_wp2_with fail
                      go_meet
                      exact ⟨rfl, gb_drewN (gb_refl _ _) _⟩
                    · obtain ⟨M, rfl⟩ : ∃ M, N = M + 1 := ⟨N - 1, by omega⟩
                      obtain ⟨gO, cO, rfl, hbO, hlO⟩ := World.ownsRow.form Hown5.out (by omega)
                      cases rs with
                      | nil => have := HN.out; cases this
                      | cons r rs' =>
                        have hM : rs'.length = M := by have := HN.out; simp at this; omega
                        have ct : W.cell? ⟨gO, M * 3 + 2, none⟩ = some (.int .i64 r.t) := by
                          rw [World.ownsRow.cellAt Hown5.out _ (by omega)]
                          exact (rv_at _ M r (by rw [List.reverse_cons, List.getElem?_append_right (by simp; omega)]; simp [hM])).2.2
                        have Htb2 : tb = (r.t == x - 1) := Htb.out
                        have z1 : decide (0 < M + 1) = true := by simp
                        have z2 : ((M + 1 : Nat) : Int) - 1 = (M : Int) := by omega
                        have z3 : (M : Int) < ((M + 1 : Nat) : Int) := by omega
                        have z4 : IntKind.i64.wrap (((M + 1 : Nat) : Int) - 1) = (M : Int) := by rw [IntKind.wrap_i64]; omega
                        have Htb3 := Lib.hid Htb2
                        have hM2 := Lib.hid hM
                        clear hM Htb Htb2 d1
                        cases hb : (r.t == x - 1) with
                        | true =>
                          obtain rfl : tb = true := Htb3.out.trans hb
                          go_wp2_with fail
                          go_quiet (fail)
                          go_wp2_with fail
                          go_meet
                          exact ⟨rfl, gb_drewN (gb_refl _ _) _⟩
                        | false =>
                          obtain rfl : tb = false := Htb3.out.trans hb
                          go_wp2_with fail
                          go_quiet (fail)
                          go_wp2_with fail
                          go_meet
                          exact ⟨rfl, gb_drewN (gb_refl _ _) _⟩
                  case rest =>
                    obtain ⟨rfl, hW6⟩ := hcut
                    have Hg6 : Hid (W3.grownBy wc none) := gb_none Hg5.out hW6
                    have Hown6 : Hid (wc.ownsRow W3.heap.size 50 3 u12 N (rv rs.reverse)) := Hown5.out.kept hW6 (by cases hv : Value.ownBlock _ with | none => exact .inl rfl | some q => exact .inr (by simp))
                    have cx := HCx.out wc Hg6.out
                    have cy := HCy.out wc Hg6.out
                    have w2 : IntKind.i64.wrap (y - 1) = y - 1 := by rw [IntKind.wrap_i64]; omega
                    have w3 : IntKind.i64.wrap ((q : Int) + 1) = (q : Int) + 1 := by rw [IntKind.wrap_i64]; omega
                    have w4 : (0 : Int) ≤ (q : Int) + 1 := by omega
                    have w5 : ((q : Int) + 1).toNat = q + 1 := by omega
                    clear hW6 Hown5 Hg5 d1
                    cases tb with
                    | true =>
                      cases rs with
                      | nil => cases Htb.out
                      | cons r rs' =>
                        obtain ⟨M, rfl⟩ : ∃ M, N = M + 1 := ⟨N - 1, by have := HN.out; simp at this; omega⟩
                        have hM : rs'.length = M := by have := HN.out; simp at this; omega
                        obtain ⟨gO, cO, rfl, hbO, hlO⟩ := World.ownsRow.form Hown6.out (by omega)
                        have hrt : r.t = x - 1 := by have h : true = (r.t == x - 1) := Htb.out; exact eq_of_beq h.symm
                        have Hrv : Hid (rv (r :: rs').reverse = rv (rs'.reverse ++ [r])) := by show _ = _; rw [List.reverse_cons]
                        have ct : wc.cell? ⟨gO, M * 3 + 2, none⟩ = some (.int .i64 r.t) := by
                          rw [World.ownsRow.cellAt Hown6.out _ (by omega), Hrv.out]
                          exact (rv_at _ M r (by rw [List.getElem?_append_right (by simp; omega)]; simp [hM])).2.2
                        have fz := World.ownsRow.frozenAt Hown6.out (M * 3 + 2)
                        have st := World.ownsRow.stored Hown6.out (M * 3 + 2) (.int .i64 (y - 1))
                        have Hset : Hid ((rv (r :: rs').reverse).set (M * 3 + 2) (.int .i64 (y - 1)) = rv (⟨r.d, r.f, y - 1⟩ :: rs').reverse) := by show _ = _; rw [List.reverse_cons, List.reverse_cons, ← hM, show rs'.length = rs'.reverse.length by simp]; exact rv_set _ _ _
                        rw [Hset.out] at st
                        have Hst := Lib.hid st
                        have Hstep : Hid (go (dev : Int) (keep a b alone (dev : Int)) [] L = go (dev : Int) (keep a b alone (dev : Int)) (⟨r.d, r.f, y - 1⟩ :: rs') (L.drop (q + 1))) := by show _ = _; rw [HD.out, Hnext.out, step_yes Hkb.out hrt]
                        have z2 : ((M + 1 : Nat) : Int) - 1 = (M : Int) := by omega
                        have z3 : (M : Int) < ((M + 1 : Nat) : Int) := by omega
                        have z4 : IntKind.i64.wrap (((M + 1 : Nat) : Int) - 1) = (M : Int) := by rw [IntKind.wrap_i64]; omega
                        have hM2 : Hid (M + 1 = (⟨r.d, r.f, y - 1⟩ :: rs' : List Rn).length) := by show _ = _; rw [List.length_cons, hM]
                        clear hM hrt st Htb HN Hkb Hset Hrv Hnext HD HV cx
                        go_wp2_with fail
                        go_roundw
                        case rel => exact ⟨q + 1, M + 1, _, by omega, by go_num, Hstep.out, hM2, Hst.out.1, fun h => absurd h (by omega), by omega, gb_new Hg6.out Hst.out.2 hbO⟩
                        case measure => simp [intOf]; omega
                    | false =>
                      have Hstep : Hid (go (dev : Int) (keep a b alone (dev : Int)) [] L = go (dev : Int) (keep a b alone (dev : Int)) (⟨(dev : Int), x, y - 1⟩ :: rs) (L.drop (q + 1))) := by show _ = _; rw [HD.out, Hnext.out, step_new Hkb.out Htb.out.symm]
                      have HN2 : Hid (N + 1 = (⟨(dev : Int), x, y - 1⟩ :: rs : List Rn).length) := by show _ = _; rw [List.length_cons, ← HN.out]
                      have Hrv : Hid (rv rs.reverse ++ [.int .i64 (dev : Int), .int .i64 x, .int .i64 (y - 1)] = rv (⟨(dev : Int), x, y - 1⟩ :: rs).reverse) := by show _ = _; rw [List.reverse_cons, rv_append]; rfl
                      have Hsz := Hg6.out.size
                      have Hm : Hid (N + 1 ≤ maxLen ∧ (N + 1) * 24 ≤ 140737488355328) := by show _ ∧ _; simp only [maxLen]; omega
                      have own6 := Hown6.out
                      clear Htb HN Hkb Hnext HD HV Hown6
                      go_upto_region 18 with fail
                      go_region_held3 (fun w' => w'.cell? ⟨g, o + q, none⟩ = some (.int .i64 x) ∧ w'.cell? ⟨g, o + (q + 1), none⟩ = some (.int .i64 y)) (first | go_keep | exact (fun hh => ⟨HCx.out _ hh, HCy.out _ hh⟩) (gb_step (gb_drew (gb_alloc Hg6.out _)) hgrow (fun i e => .inr (own6.lt i e).1)))
                        ((refine step_append_lies _ (by rfl) _ _ _ (by rfl) W3.heap.size 50 i0 (.agg #[.int .i64 0, .int .i64 0, .int .i64 0]) 3 24 Tryz.underlying22 Hi0.out Hz0.out Hz1.out Hz2.out rfl (by decide) _ N _ (by rfl) ((own6.alloc _).drew) ⟨wc.heap.size, 0, none⟩ 1 1 [.int .i64 (dev : Int), .int .i64 x, .int .i64 (y - 1)] (by rfl) (by rfl) (World.news_of_block (cs := #[.int .i64 (dev : Int), .int .i64 x, .int .i64 (y - 1)]) (t := 50) (fr := (0, 0)) (heap_alloc_new wc _)) (ints3 _ _ _) (by decide) Hm.out.1 Hm.out.2 (by simp; omega) (wc.heap.size + 1) (by simp) ?_; intro g' cap' w' own' hgrow hat hlt'))
                      have Hg7 : Hid (W3.grownBy w' none) := gb_step (gb_drew (gb_alloc Hg6.out _)) hgrow (fun i e => .inr (own6.lt i e).1)
                      rw [Hrv.out] at own'
                      have Hown7 := Lib.hid own'
                      clear own' hgrow hat hlt' own6 cx cy w3 w4 w5
                      go_wp2_with fail
                      go_roundw
                      case rel => exact ⟨q + 1, N + 1, _, by omega, by go_num, Hstep.out, HN2, Hown7.out, fun h => absurd h (by omega), by omega, Hg7.out⟩
                      case measure => simp [intOf]; omega
            · have d1 : decide ((q : Int) + 1 < (L.length : Int)) = false := decide_eq_false (by omega)
              have lb : (L.length : Int) ≤ 400000 := by have := Hn2.out; omega
              have Hfin : Hid (mixR (dev : Int) a b alone = rs.reverse) := by show _ = _; rw [Hend.out, HD.out, go_end _ _ _ (by omega)]
              have hg7 : w.grownBy wr none := gb_none HG.out hg
              obtain ⟨A3, c3, hv, hR, hc3⟩ := own_rl hown (by rw [List.length_reverse]; exact HN.out.symm)
              have Hnil : Hid (N = 0 → A3 = none ∧ c3 = 0) := fun h => by have := HV.out h; rw [hv] at this; cases this; exact ⟨rfl, rfl⟩
              subst hv
              have HR := Lib.hid hR
              have Hg7 := Lib.hid hg7
              clear HD HV hR hg hg7 hown hlt
              go_wp2_with fail
              go_ret
              have e : rs.reverse.length = N := by rw [List.length_reverse]; exact HN.out.symm
              rw [Hfin.out]
              refine ⟨A3, c3, ?_, ?_, ?_, Hg7.out⟩
              · rw [e]; rfl
              · rw [e]; exact HR.out
              · rw [e]; exact ⟨Hnil.out, hc3⟩
theorem mix_c : MixC := fun dev A B n c m d a b alone W _ ha hb oa ob hn hm => ⟨by have h := mix_len_le (dev : Int) a b alone; rw [ha.1, hb.1] at h; omega, mix_any dev A B n c m d a b alone W ha hb oa ob hn hm⟩
end Go.Proofs.YthijiefopcnclaaGreatDoor.Dt

namespace Go.Proofs.YthijiefopcnclaaGreatDoor.Dt
open Go Go.RowKit Go.Proofs.YthijiefopcnclaaGreatDoor.Mm

/-- Whether two lists are one, as a Boolean. -/
def SameIs (a b : List Rn) (w : World) (e : Ending) (w' : World) : Prop := (∃ q, e = .returned (.bool q) ∧ (q = true ↔ a = b)) ∧ w.grownBy w' none

set_option maxHeartbeats 8000000 in
set_option maxRecDepth 100000 in
theorem refSame_any (A B : Option Addr) (n c m d : Nat) (a b : List Rn) (w : World) (ha : RL w A n a) (hb : RL w B m b) (hn : n ≤ 1099511627776) (hm : m ≤ 1099511627776) :
    Calls Tryz.prog 34 #[.slice A n c, .slice B m d] w (SameIs a b w) := by
  have Ha := Lib.hid ha
  have Hb := Lib.hid hb
  clear ha hb
  by_cases hnm : n = m
  · subst hnm
    have e0 : ((n : Int) != (n : Int)) = false := by simp
    go_enter Tryz.func34, Tryz.ntmps34
    go_wp2_with fail
    go_loopw [5] (fun i wr => ∃ k : Nat, k ≤ n ∧ i = .int .i64 k ∧ Hid (a.take k = b.take k) ∧ w.grownBy wr none) (fun i _ => n - (intOf i).toNat)
    case atStart => exact ⟨0, Nat.zero_le _, rfl, by show _ = _; rfl, gb_refl _ _⟩
    case round =>
      obtain ⟨k, hk, rfl, HX, hg⟩ := hrel
      by_cases hlt : k < n
      · have d1 : decide (k < n) = true := decide_eq_true hlt
        have d2 : decide ((k : Int) < (n : Int)) = true := decide_eq_true (by omega)
        have bk : (k : Int) < (n : Int) := by omega
        obtain ⟨g, o, rfl, hgl, hcc⟩ := (Ha.out.keep hg).2 (by omega)
        obtain ⟨g', o', rfl, hgl', hcc'⟩ := (Hb.out.keep hg).2 (by omega)
        obtain ⟨x, hx⟩ : ∃ x, a[k]? = some x := ⟨_, List.getElem?_eq_getElem (by rw [Ha.out.1]; exact hlt)⟩
        obtain ⟨y, hy⟩ : ∃ y, b[k]? = some y := ⟨_, List.getElem?_eq_getElem (by rw [Hb.out.1]; exact hlt)⟩
        obtain ⟨h0, h1, h2⟩ := hcc k x hx
        obtain ⟨i0, i1, i2⟩ := hcc' k y hy
        have Hx := Lib.hid hx
        have Hy := Lib.hid hy
        clear hcc hcc' hx hy
        have hq := fun (W : World) => runT_neq x y W
        have hG := runT_guard
        have hT := take_more Hx.out
        have hT2 := take_more Hy.out
        by_cases hxy : x = y
        · have he : eqR x y = true := (eqR_iff x y).2 hxy
          have Hnext : Hid (a.take (k + 1) = b.take (k + 1)) := by show _ = _; rw [hT, hT2, HX.out, hxy]
          rw [he] at hq
          clear hT hT2 hxy he
          go_wp2_with fail
          go_quiet (fail)
          go_wp2_with fail
          go_roundw
          case rel => exact ⟨k + 1, by omega, by go_num, Hnext, gb_drewN hg _⟩
          case measure => simp [intOf]; omega
        · have he : eqR x y = false := by
            cases h : eqR x y with
            | false => rfl
            | true => exact absurd ((eqR_iff x y).1 h) hxy
          have Hno : Hid (a ≠ b) := fun h => hxy (by
            have h1 := Hx.out
            rw [h, Hy.out] at h1
            exact (Option.some.inj h1).symm)
          rw [he] at hq
          clear hT hT2 hxy he
          go_wp2_with fail
          go_quiet (fail)
          go_wp2_with fail
          go_ret
          exact ⟨⟨false, rfl, by simp [Hno.out]⟩, gb_drewN hg _⟩
      · have hkn : k = n := by omega
        subst hkn
        have d1 : decide (k < k) = false := by simp
        have d2 : decide ((k : Int) < (k : Int)) = false := by simp
        have He : Hid (a = b) := by
          show a = b
          have h := HX.out
          rwa [List.take_of_length_le (by rw [Ha.out.1]; exact Nat.le_refl _), List.take_of_length_le (by rw [Hb.out.1]; exact Nat.le_refl _)] at h
        go_wp2_with fail
        go_ret
        exact ⟨⟨true, rfl, by simp [He.out]⟩, hg⟩
  · have e0 : ((n : Int) != (m : Int)) = true := by rw [bne_iff_ne]; omega
    have Hno : Hid (a ≠ b) := fun h => hnm (by rw [← Ha.out.1, ← Hb.out.1, h])
    clear hnm
    go_enter Tryz.func34, Tryz.ntmps34
    go_wp2_with fail
    go_ret
    exact ⟨⟨false, rfl, by simp [Hno.out]⟩, gb_refl _ _⟩
end Go.Proofs.YthijiefopcnclaaGreatDoor.Dt

namespace Go.Proofs.YthijiefopcnclaaGreatDoor.Dt
open Go Go.RowKit Go.Proofs.YthijiefopcnclaaGreatDoor.Mm

theorem refUnion_any (A B : Option Addr) (n c m d : Nat) (a b : List Rn) (w : World) (ha : RL w A n a) (hb : RL w B m b) (ma : May a) (mb : May b) (hn : n ≤ 100000) (hm : m ≤ 100000) :
    Calls Tryz.prog 61 #[.slice A n c, .slice B m d] w (Runs (unionR a b) w) := refUnion_of mix_c A B n c m d a b w ha hb ma.1 mb.1 hn hm
theorem refOf_any (A : Option Addr) (n c : Nat) (l : List (Int × Int)) (w : World) (hl : DL w A n l) (hn : n ≤ 50000) :
    Calls Tryz.prog 65 #[.slice A n c] w (Runs (ofR [] l) w) := refOf_of mix_c A n c l w hl hn
theorem same_yes (A B : Option Addr) (n c m d : Nat) (a b : List Rn) (w : World) (ha : RL w A n a) (hb : RL w B m b) (h : a = b) (hn : n ≤ 100000) (hm : m ≤ 100000) :
    Calls Tryz.prog 34 #[.slice A n c, .slice B m d] w fun e w' => e = .returned (.bool true) ∧ w.grownBy w' none :=
  (refSame_any A B n c m d a b w ha hb (by omega) (by omega)).mono fun _ _ ⟨⟨q, he, hq⟩, hg⟩ => ⟨by rw [he, hq.2 h], hg⟩
theorem pMay_yes (A : Option Addr) (n c : Nat) (l : List Rn) (w : World) (hl : RL w A n l) (h : May l) (hn : n ≤ 100000) :
    Calls Tryz.prog 73 #[.slice A n c] w fun e w' => e = .returned (.bool true) ∧ w.grownBy w' none :=
  (pMay_any A n c l w hl (by omega)).mono fun _ _ ⟨⟨q, he, hq⟩, hg⟩ => ⟨by rw [he, hq.2 h], hg⟩
theorem refMay_yes (A : Option Addr) (n c : Nat) (l : List Rn) (w : World) (hl : RL w A n l) (h : May l) (hn : n ≤ 100000) :
    Calls Tryz.prog 38 #[.slice A n c] w fun e w' => e = .returned (.bool true) ∧ w.grownBy w' none :=
  (refMay_any A n c l w hl (by omega)).mono fun _ _ ⟨⟨q, he, hq⟩, hg⟩ => ⟨by rw [he, hq.2 h], hg⟩
theorem runT_eql (x y : Rn) (W : World) : (binOp .eql 50 (.agg #[.int .i64 x.d, .int .i64 x.f, .int .i64 x.t]) (.agg #[.int .i64 y.d, .int .i64 y.f, .int .i64 y.t])).run Tryz.prog W = .ok (.bool (eqR x y)) W := by
  rw [run_eql_struct, runT_eq]; rfl
theorem dl_two (w : World) (x0 y0 x1 y1 : Int) (t : TypeId) : DL (w.alloc (.cells #[.int .i64 x0, .int .i64 y0, .int .i64 x1, .int .i64 y1] t)) (some ⟨w.heap.size, 0, none⟩) 2 [(x0, y0), (x1, y1)] := by
  have hr := Row.new w t #[.int .i64 x0, .int .i64 y0, .int .i64 x1, .int .i64 y1]
  refine ⟨rfl, fun _ => ⟨w.heap.size, 0, rfl, hr.lt, fun i r h => ?_⟩⟩
  have hi : i = 0 ∨ i = 1 := by have := (List.getElem?_eq_some_iff.1 h).1; simp at this; omega
  rcases hi with rfl | rfl
  · obtain rfl : (x0, y0) = r := by simpa using h
    exact ⟨hr.at_ (i := 0) rfl, hr.at_ (i := 1) rfl⟩
  · obtain rfl : (x1, y1) = r := by simpa using h
    exact ⟨hr.at_ (i := 2) rfl, hr.at_ (i := 3) rfl⟩
end Go.Proofs.YthijiefopcnclaaGreatDoor.Dt

namespace Go.Proofs.YthijiefopcnclaaGreatDoor.Dt
open Go Go.RowKit Go.Proofs.YthijiefopcnclaaGreatDoor.Mm

/-- The slice at A, of n bytes, reads as these. -/
def NL (w : World) (A : Option Addr) (n : Nat) (bs : List Int) : Prop :=
  bs.length = n ∧ (0 < n → ∃ g o, A = some ⟨g, o, none⟩ ∧ g < w.heap.size ∧ ∀ i x, bs[i]? = some x → w.cell? ⟨g, o + i, none⟩ = some (.int .u8 x)) ∧ ∀ x ∈ bs, 0 ≤ x ∧ x ≤ 255
theorem NL.keep {w w' : World} {A : Option Addr} {n : Nat} {bs : List Int} (h : NL w A n bs) (hg : w.grownBy w' none) : NL w' A n bs := by
  refine ⟨h.1, fun hn => ?_, h.2.2⟩
  obtain ⟨g, o, e, hl, hc⟩ := h.2.1 hn
  exact ⟨g, o, e, Nat.lt_of_lt_of_le hl hg.size, fun i x hx => (World.cell?_of_block (a := ⟨g, o + i, none⟩) (hg.block g hl (by simp))).trans (hc i x hx)⟩
theorem nl_of_row {w : World} {a : Option Addr} {len cap : Nat} {zs : List Int}
    (h : (a = none ∧ len = 0 ∧ cap = 0 ∧ zs = []) ∨ ∃ x, a = some x ∧ len ≤ cap ∧ cap ≤ maxLen ∧ zs.length = cap ∧ (∀ i, i < zs.length → w.cell? (x.add i) = some (.int .u8 (zs.getD i 0))) ∧ ∀ n ∈ zs, (Lit.int .u8 n).wf = true) :
    NL w a len (zs.take len) ∧ len ≤ 9223372036854775807 ∧ len ≤ cap := by
  rcases h with ⟨rfl, rfl, rfl, rfl⟩ | ⟨x, rfl, hl, hc, hz, hcell, hwf⟩
  · exact ⟨⟨rfl, fun h => absurd h (by omega), fun x hx => by simp at hx⟩, by omega, Nat.le_refl _⟩
  · refine ⟨⟨by rw [List.length_take]; omega, fun h0 => ?_, fun n hn => ?_⟩, by unfold maxLen at hc; omega, hl⟩
    · obtain ⟨b, o, sp⟩ := x
      have c0 := hcell 0 (by omega)
      cases sp with
      | some sp =>
        exfalso
        simp only [Addr.add, World.cell?] at c0
        split at c0 <;> simp at c0
      | none =>
        refine ⟨b, o, rfl, ?_, fun i x hx => ?_⟩
        · have := block_lt_of_cell c0
          simpa [Addr.add] using this
        · have hi : i < len := by have := (List.getElem?_eq_some_iff.1 hx).1; rw [List.length_take] at this; omega
          have ci := hcell i (by omega)
          have hadd : (⟨b, o, none⟩ : Addr).add i = ⟨b, o + i, none⟩ := by unfold Addr.add; split <;> simp_all
          rw [hadd] at ci
          rw [List.getElem?_take, if_pos hi] at hx
          rw [ci, List.getD_eq_getElem?_getD, hx]; rfl
    · have hv := hwf n (List.mem_of_mem_take hn)
      have h1 : IntKind.u8.min = 0 := by decide
      have h2 : IntKind.u8.max = 255 := by decide
      simp only [Lit.wf, h1, h2, Bool.and_eq_true, decide_eq_true_eq] at hv
      omega
/-- The dot of a number. -/
def dotN (b : Int) : Int × Int := (b % 4, 1 + b / 4 % 20)
def dotsN (bs : List Int) : List (Int × Int) := bs.map dotN
theorem dotN_ok (b : Int) : Ok ⟨(dotN b).1, (dotN b).2, (dotN b).2⟩ := by
  unfold dotN Ok
  refine ⟨?_, ?_, ?_, ?_, ?_⟩ <;> simp only [] <;> omega
/-- The cells of dots. -/
def dv (l : List (Int × Int)) : List Value := l.flatMap fun x => [.int .i64 x.1, .int .i64 x.2]
theorem dv_append (a b : List (Int × Int)) : dv (a ++ b) = dv a ++ dv b := by unfold dv; rw [List.flatMap_append]
theorem dv_len (l : List (Int × Int)) : (dv l).length = l.length * 2 := by
  induction l with
  | nil => rfl
  | cons r l ih => show ([Value.int .i64 r.1, .int .i64 r.2] ++ dv l).length = _; rw [List.length_append, ih, List.length_cons]; simp; omega
theorem dv_at (l : List (Int × Int)) (i : Nat) (x : Int × Int) (h : l[i]? = some x) : (dv l)[i * 2]? = some (.int .i64 x.1) ∧ (dv l)[i * 2 + 1]? = some (.int .i64 x.2) := by
  induction l generalizing i with
  | nil => simp at h
  | cons r l ih =>
    cases i with
    | zero =>
      obtain rfl : r = x := by simpa using h
      exact ⟨rfl, rfl⟩
    | succ i =>
      obtain ⟨h0, h1⟩ := ih i (by simpa using h)
      show ([Value.int .i64 r.1, .int .i64 r.2] ++ dv l)[_]? = _ ∧ ([Value.int .i64 r.1, .int .i64 r.2] ++ dv l)[_]? = _
      refine ⟨?_, ?_⟩
      · rw [List.getElem?_append_right (by simp; omega), show (i + 1) * 2 - [Value.int .i64 r.1, .int .i64 r.2].length = i * 2 by simp; omega]; exact h0
      · rw [List.getElem?_append_right (by simp; omega), show (i + 1) * 2 + 1 - [Value.int .i64 r.1, .int .i64 r.2].length = i * 2 + 1 by simp; omega]; exact h1
theorem own_dl {w : World} {B n : Nat} {t : TypeId} {v : Value} {l : List (Int × Int)} (h : w.ownsRow B t 2 v n (dv l)) (hn : l.length = n) : ∃ A c, v = .slice A n c ∧ DL w A n l ∧ n ≤ c := by
  have hcells := fun (g : Nat) (hg : v.ownBlock = some g) => World.ownsRow.cells h hg
  rcases h.2 with ⟨rfl, h0⟩ | ⟨g, cap, cur, rfl, hB, hg, hle, _⟩
  · exact ⟨none, 0, by rw [h0], ⟨hn, fun hp => absurd hp (by omega)⟩, by omega⟩
  · refine ⟨_, cap, rfl, ⟨hn, fun _ => ⟨g, 0, rfl, (Array.getElem?_eq_some_iff.1 hg).1, fun i x hx => ?_⟩⟩, hle⟩
    have hat : ∀ j u, (dv l)[j]? = some u → w.cell? ⟨g, 0 + j, none⟩ = some u := fun j u hu => by
      have := hcells g rfl j u hu
      have hadd : (⟨g, 0, none⟩ : Addr).add j = ⟨g, 0 + j, none⟩ := by unfold Addr.add; split <;> simp_all
      rwa [hadd] at this
    obtain ⟨r0, r1⟩ := dv_at l i x hx
    exact ⟨hat _ _ r0, hat _ _ r1⟩
theorem dot_inf : (Tryz.prog.info? 44).map (fun i => (i.zero, i.size, i.bytes)) = some (some (.agg #[.int .i64 0, .int .i64 0]), 2, 16) := by kernel_rfl
theorem ints2 (x y : Int) : ∀ u ∈ [Value.int .i64 x, .int .i64 y], u.oneCell' = true := by
  intro u hu
  simp only [List.mem_cons, List.not_mem_nil, or_false] at hu
  obtain rfl | rfl := hu <;> rfl
/-- What a call that answers dots leaves. -/
def Dots (l : List (Int × Int)) (w : World) (e : Ending) (w' : World) : Prop := ∃ A c, e = .returned (.slice A l.length c) ∧ DL w' A l.length l ∧ w.grownBy w' none
end Go.Proofs.YthijiefopcnclaaGreatDoor.Dt
