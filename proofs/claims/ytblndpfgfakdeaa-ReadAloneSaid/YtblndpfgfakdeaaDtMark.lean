/- The document's mark: a number in a rising list, once. -/
import Derived.Test.YtblndpfgfakdeaaDtMem
import Derived.Laws.AppendOwn
import Derived.Deep.DeepCutAuto
import Derived.Laws.AppendOwnNone
namespace Go.Proofs.Ytblndpfgfakdeaa.Dt
open Go Go.RowKit Go.Proofs.Ytblndpfgfakdeaa.Mm

/-- The slice at A, of n numbers, reads as these. -/
def IL (w : World) (A : Option Addr) (n : Nat) (L : List Int) : Prop :=
  L.length = n ∧ (0 < n → ∃ g o, A = some ⟨g, o, none⟩ ∧ g < w.heap.size ∧ ∀ i, i < n → w.cell? ⟨g, o + i, none⟩ = some (.int .i64 (L.getD i 0)))
theorem IL.keep {w w' : World} {A : Option Addr} {n : Nat} {L : List Int} (h : IL w A n L) (hg : w.grownBy w' none) : IL w' A n L := by
  refine ⟨h.1, fun hn => ?_⟩
  obtain ⟨g, o, e, hl, hc⟩ := h.2 hn
  exact ⟨g, o, e, Nat.lt_of_lt_of_le hl hg.size, fun i hi => (World.cell?_of_block (a := ⟨g, o + i, none⟩) (hg.block g hl (by simp))).trans (hc i hi)⟩
theorem IL.none (w : World) : IL w none 0 [] := ⟨rfl, fun h => absurd h (by omega)⟩

theorem filt_all {l : List Int} {p : Int → Bool} (h : ∀ x ∈ l, p x = true) : l.filter p = l := List.filter_eq_self.2 h
theorem filt_no {l : List Int} {p : Int → Bool} (h : ∀ x ∈ l, p x = false) : l.filter p = [] := List.filter_eq_nil_iff.2 fun x hx => by rw [h x hx]; decide
/-- Cut where what is less ends. -/
theorem mk_cut {L : List Int} {x : Int} {k : Nat} (h1 : ∀ y ∈ L.take k, y < x) (h2 : ∀ y ∈ L.drop k, x < y) : mk L x = L.take k ++ x :: L.drop k := by
  have e : L = L.take k ++ L.drop k := (List.take_append_drop k L).symm
  unfold mk
  have f1 : L.filter (fun y => decide (y < x)) = L.take k := by
    conv => lhs; rw [e]
    rw [List.filter_append, filt_all (fun y hy => decide_eq_true (h1 y hy)), filt_no (fun y hy => decide_eq_false (by have := h2 y hy; omega)), List.append_nil]
  have f2 : L.filter (fun y => decide (x < y)) = L.drop k := by
    conv => lhs; rw [e]
    rw [List.filter_append, filt_no (fun y hy => decide_eq_false (by have := h1 y hy; omega)), filt_all (fun y hy => decide_eq_true (h2 y hy)), List.nil_append]
  rw [f1, f2]
theorem mk_has {L : List Int} {x : Int} {k : Nat} (hr : Rising L) (hx : L[k]? = some x) : mk L x = L := by
  have hk : k < L.length := (List.getElem?_eq_some_iff.1 hx).1
  have e : L = L.take k ++ x :: L.drop (k + 1) := by
    have h3 : L.drop k = x :: L.drop (k + 1) := by
      rw [List.drop_eq_getElem_cons hk]
      rw [(List.getElem?_eq_some_iff.1 hx).2]
    rw [← h3, List.take_append_drop]
  have hp := hr
  rw [e] at hp
  have hp2 := List.pairwise_append.1 hp
  have h1 : ∀ y ∈ L.take k, y < x := fun y hy => hp2.2.2 y hy x (by simp)
  have h2 : ∀ y ∈ L.drop (k + 1), x < y := (List.pairwise_cons.1 hp2.2.1).1
  unfold mk
  have f1 : L.filter (fun y => decide (y < x)) = L.take k := by
    conv => lhs; rw [e]
    rw [List.filter_append, filt_all (fun y hy => decide_eq_true (h1 y hy)), filt_no (fun y hy => decide_eq_false (by
      rcases List.mem_cons.1 hy with h | h
      · omega
      · have := h2 y h; omega)), List.append_nil]
  have f2 : L.filter (fun y => decide (x < y)) = L.drop (k + 1) := by
    conv => lhs; rw [e]
    rw [List.filter_append, filt_no (fun y hy => decide_eq_false (by have := h1 y hy; omega)), List.filter_cons, if_neg (by simp), filt_all (fun y hy => decide_eq_true (h2 y hy)), List.nil_append]
  rw [f1, f2, ← e]
theorem rising_lt {L : List Int} (hr : Rising L) {i j : Nat} (hij : i < j) (hj : j < L.length) : L.getD i 0 < L.getD j 0 := by
  have h := List.pairwise_iff_getElem.1 hr i j (by omega) hj hij
  rw [List.getD_eq_getElem?_getD, List.getElem?_eq_getElem (show i < L.length by omega), List.getD_eq_getElem?_getD, List.getElem?_eq_getElem hj]
  exact h
theorem in_take {L : List Int} {k : Nat} {y : Int} (hy : y ∈ L.take k) : ∃ i, i < k ∧ i < L.length ∧ L.getD i 0 = y := by
  obtain ⟨i, hi, e⟩ := List.mem_iff_getElem.1 hy
  rw [List.length_take] at hi
  refine ⟨i, by omega, by omega, ?_⟩
  rw [List.getElem_take] at e
  rw [List.getD_eq_getElem?_getD, List.getElem?_eq_getElem (show i < L.length by omega)]; exact e
theorem in_drop {L : List Int} {k : Nat} {y : Int} (hy : y ∈ L.drop k) : ∃ i, k ≤ i ∧ i < L.length ∧ L.getD i 0 = y := by
  obtain ⟨i, hi, e⟩ := List.mem_iff_getElem.1 hy
  rw [List.length_drop] at hi
  refine ⟨k + i, by omega, by omega, ?_⟩
  rw [List.getElem_drop] at e
  rw [List.getD_eq_getElem?_getD, List.getElem?_eq_getElem (show k + i < L.length by omega)]; exact e

theorem int_inf : (Try.prog.info? 3).map (fun i => (i.zero, i.size, i.bytes)) = some (some (.int .i64 0), 1, 8) := by kernel_rfl
def iv (L : List Int) : List Value := L.map (Value.int .i64)
theorem iv_len (L : List Int) : (iv L).length = L.length := List.length_map _
theorem iv_one (L : List Int) : ∀ u ∈ iv L, u.oneCell' = true := by
  intro u hu
  simp only [iv, List.mem_map] at hu
  obtain ⟨x, _, rfl⟩ := hu
  rfl
theorem own_emptyI (w : World) (base : Nat) (t : TypeId) (h : base ≤ w.heap.size) : (w.alloc (.cells #[] t)).ownsRow base t 1 (.slice (some ⟨w.heap.size, 0, none⟩) 0 0) 0 [] :=
  ⟨rfl, .inr ⟨w.heap.size, 0, #[], rfl, h, heap_alloc_new w _, Nat.le_refl _, by decide, rfl, rfl⟩⟩
theorem il_part {w W : World} {g o n a b : Nat} {L : List Int} (hL : L.length = n) (hc : ∀ i, i < n → w.cell? ⟨g, o + i, none⟩ = some (.int .i64 (L.getD i 0))) (hgl : g < w.heap.size) (hg : w.grownBy W none) :
    ∀ j u, (iv ((L.drop a).take b))[j]? = some u → W.cell? ((⟨g, o + a, none⟩ : Addr).add j) = some u := fun j u hu => by
  have hadd : (⟨g, o + a, none⟩ : Addr).add j = ⟨g, o + (a + j), none⟩ := by unfold Addr.add; split <;> simp_all [Nat.add_assoc]
  rw [hadd, World.cell?_of_block (w := w) (a := ⟨g, o + (a + j), none⟩) (hg.block g hgl (by simp))]
  unfold iv at hu
  rw [List.getElem?_map, List.getElem?_take, List.getElem?_drop] at hu
  split at hu
  · cases hx : L[a + j]? with
    | none => rw [hx] at hu; cases hu
    | some z =>
      rw [hx] at hu
      rw [hc (a + j) (by rw [← hL]; exact (List.getElem?_eq_some_iff.1 hx).1), List.getD_eq_getElem?_getD, hx]
      exact hu
  · cases hu
theorem il_front {w W : World} {g o n b : Nat} {L : List Int} (hL : L.length = n) (hc : ∀ i, i < n → w.cell? ⟨g, o + i, none⟩ = some (.int .i64 (L.getD i 0))) (hgl : g < w.heap.size) (hg : w.grownBy W none) :
    ∀ j u, (iv (L.take b))[j]? = some u → W.cell? ((⟨g, o, none⟩ : Addr).add j) = some u := by
  have h := il_part (a := 0) (b := b) hL hc hgl hg
  simpa using h
theorem il_back {w W : World} {g o n a : Nat} {L : List Int} (hL : L.length = n) (hc : ∀ i, i < n → w.cell? ⟨g, o + i, none⟩ = some (.int .i64 (L.getD i 0))) (hgl : g < w.heap.size) (hg : w.grownBy W none) :
    ∀ j u, (iv (L.drop a))[j]? = some u → W.cell? ((⟨g, o + a, none⟩ : Addr).add j) = some u := by
  have h := il_part (a := a) (b := L.length) hL hc hgl hg
  rwa [List.take_of_length_le (by rw [List.length_drop]; omega)] at h
theorem one_new (w : World) (x : Int) (t : TypeId) : ∀ j u, (iv [x])[j]? = some u → (w.alloc (.cells #[.int .i64 x] t)).cell? ((⟨w.heap.size, 0, none⟩ : Addr).add j) = some u := fun j u hu => by
  have hadd : (⟨w.heap.size, 0, none⟩ : Addr).add j = ⟨w.heap.size, j, none⟩ := by unfold Addr.add; split <;> simp_all
  rw [hadd]
  have := cell_of_row _ w.heap.size j #[.int .i64 x] t (0, 0) (heap_alloc_new w _)
  rw [this]
  simpa [iv] using hu
theorem own_slice1 {w : World} {B : Nat} {e : TypeId} {v : Value} {n : Nat} {xs : List Value} (h : w.ownsRow B e 1 v n xs) : ∃ A m c, v = .slice A m c := by
  rcases h.2 with ⟨rfl, _⟩ | ⟨g, cap, cur, rfl, _⟩
  · exact ⟨_, _, _, rfl⟩
  · exact ⟨_, _, _, rfl⟩
theorem own_far {w : World} {B : Nat} {e : TypeId} {v : Value} {n : Nat} {xs : List Value} (h : w.ownsRow B e 1 v n xs) : ∀ i, v.ownBlock = some i → B ≤ i := fun i hi => by
  rcases h.2 with ⟨rfl, _⟩ | ⟨g, cap, cur, rfl, hB, _⟩
  · simp [Value.ownBlock] at hi
  · simp [Value.ownBlock] at hi; omega
theorem own_il {w : World} {B n : Nat} {t : TypeId} {v : Value} {L : List Int} (h : w.ownsRow B t 1 v n (iv L)) (hn : L.length = n) : ∃ A c, v = .slice A n c ∧ IL w A n L ∧ n ≤ c := by
  have hcells := fun (g : Nat) (hg : v.ownBlock = some g) => World.ownsRow.cells h hg
  rcases h.2 with ⟨rfl, h0⟩ | ⟨g, cap, cur, rfl, hB, hg, hle, _⟩
  · exact ⟨none, 0, by rw [h0], ⟨hn, fun hp => absurd hp (by omega)⟩, by omega⟩
  · refine ⟨_, cap, rfl, ⟨hn, fun _ => ⟨g, 0, rfl, (Array.getElem?_eq_some_iff.1 hg).1, fun i hi => ?_⟩⟩, hle⟩
    have := hcells g rfl i (.int .i64 (L.getD i 0)) (by
      unfold iv
      rw [List.getElem?_map, List.getElem?_eq_getElem (by omega), List.getD_eq_getElem?_getD, List.getElem?_eq_getElem (by omega)]; rfl)
    have hadd : (⟨g, 0, none⟩ : Addr).add i = ⟨g, 0 + i, none⟩ := by unfold Addr.add; split <;> simp_all
    rwa [hadd] at this

set_option maxHeartbeats 4000000 in
set_option maxRecDepth 100000 in
theorem mark_loop (A : Option Addr) (n c : Nat) (L : List Int) (x : Int) (w : World) (h : IL w A n L) (hr : Rising L) (hn : n ≤ 1000000) (hc : n ≤ c) (h0 : n = 0 → A = none ∧ c = 0) :
    Calls Try.prog 74 #[.slice A n c, .int .i64 x] w fun e w' => ∃ A' c', e = .returned (.slice A' (mk L x).length c') ∧ IL w' A' (mk L x).length (mk L x) ∧ (mk L x).length ≤ c' ∧ w.grownBy w' none := by
  have H := Lib.hid h
  have Hr := Lib.hid hr
  clear h hr
  go_enter Try.func74, Try.ntmps74
  go_wp2_with fail
  go_loopw [5] (fun v wr => ∃ k : Nat, k ≤ n ∧ v = .int .i64 k ∧ Hid (∀ i, k ≤ i → i < n → x ≤ L.getD i 0) ∧ w = wr) (fun v _ => (intOf v).toNat)
  case atStart => exact ⟨n, Nat.le_refl _, rfl, (fun i h1 h2 => by omega), rfl⟩
  case round =>
    obtain ⟨k, hk, rfl, HX, rfl⟩ := hrel
    by_cases hk0 : k = 0
    · have HS : Hid (∀ i, i < k → L.getD i 0 < x) := fun i h => by omega
      have d1 : decide ((0 : Int) < (k : Int)) = false := decide_eq_false (by omega)
      have d1n : decide (0 < k) = false := decide_eq_false (by omega)
      clear hk0
      go_upto_region 4 with fail
      clear d1 d1n
      have HM : Hid ((∀ y ∈ L.take k, y < x) ∧ ∀ y ∈ L.drop k, x ≤ y) := by
        refine ⟨fun y hy => ?_, fun y hy => ?_⟩
        · obtain ⟨i, h1, h2, rfl⟩ := in_take hy
          exact HS.out i h1
        · obtain ⟨i, h1, h2, rfl⟩ := in_drop hy
          exact HX.out i h1 (by rw [← H.out.1]; exact h2)
      by_cases hkn : k < n
      · obtain ⟨g, o, hA, hgl, hcc⟩ := H.out.2 (by omega)
        cases hA
        have hck := hcc k hkn
        have HCC := Lib.hid hcc
        clear hcc
        obtain ⟨y2, hy2⟩ : ∃ y, L.getD k 0 = y := ⟨_, rfl⟩
        rw [hy2] at hck
        have d3 : decide (k < n) = true := decide_eq_true hkn
        have d4 : decide ((k : Int) < (n : Int)) = true := decide_eq_true (by omega)
        have bk : (k : Int) < (n : Int) := by omega
        by_cases e : y2 = x
        · subst e
          have f1 : (y2 == y2) = true := by simp
          have Hm : Hid (mk L y2 = L) := mk_has Hr.out (k := k) (by
            have hKL : k < L.length := by rw [H.out.1]; exact hkn
            rw [List.getElem?_eq_getElem hKL, ← hy2, List.getD_eq_getElem?_getD, List.getElem?_eq_getElem hKL]; rfl)
          have HL1 := Lib.hid H.out.1
          clear hy2
          go_wp2_with fail
          go_ret
          rw [Hm.out, HL1.out]
          exact ⟨_, c, rfl, H.out, hc, gb_refl _ _⟩
        · have f1 : (y2 == x) = false := by rw [beq_eq_false_iff_ne]; exact e
          have Hc : Hid (mk L x = L.take k ++ x :: L.drop k) := mk_cut HM.out.1 (fun y hy => by
            have h1 := HM.out.2 y hy
            obtain ⟨i, h2, h3, h4⟩ := in_drop hy
            by_cases e2 : i = k
            · subst e2; rw [hy2] at h4; omega
            · have := rising_lt Hr.out (show k < i by omega) h3; rw [hy2] at this
              have h5 := HX.out k (Nat.le_refl _) hkn
              rw [hy2] at h5; omega)
          clear e hy2
          obtain ⟨i0, hi0, hz0, hz1, hz2⟩ := info_parts int_inf
          have Hi0 := Lib.hid hi0
          have Hz0 := Lib.hid hz0
          have Hz1 := Lib.hid hz1
          have Hz2 := Lib.hid hz2
          have HLn := Lib.hid H.out.1
          clear hi0 hz0 hz1 hz2
          have e1 : (iv (L.take k)).length = k * 1 := by rw [iv_len, List.length_take, HLn.out]; omega
          have E1 := Lib.hid e1
          have e3 : (iv (L.drop k)).length = (n - k) * 1 := by rw [iv_len, List.length_drop, HLn.out]; omega
          have E3 := Lib.hid e3
          clear e1 e3
          go_upto_region 7 with (at_builtin; refine wpList_append_own _ rfl (.tmp 35) (.tmp 38) 87 rfl w.heap.size 3 i0 (.int .i64 0) 1 8 Try.underlying87 Hi0.out Hz0.out Hz1.out Hz2.out rfl (by decide) _ 0 _ rfl (own_emptyI w _ _ (Nat.le_refl _)) ⟨g, o, none⟩ k c (iv (L.take k)) rfl E1.out (il_front HLn.out HCC.out hgl (gb_alloc (gb_refl _ _) _)) (iv_one _) (by simp only [maxLen]; omega) (by omega) (by simp) ?_; intro v1 w1 own1 grow1 _)
          have g1 : w.grownBy w1 none := gb_new (gb_alloc (gb_refl _ _) _) grow1 (Nat.le_refl _)
          have own1' : w1.ownsRow w.heap.size 3 1 v1 k (iv (L.take k)) := by have h := own1; rw [Nat.zero_add, List.nil_append] at h; exact h
          obtain ⟨A1, n1, c1, rfl⟩ : ∃ A m c, v1 = .slice A m c := own_slice1 own1
          have hw1 := g1.size
          clear grow1 own1
          go_upto_region 8 with (at_builtin; refine wpList_append_own _ rfl (.tmp 40) (.tmp 42) 87 rfl w.heap.size 3 i0 (.int .i64 0) 1 8 Try.underlying87 Hi0.out Hz0.out Hz1.out Hz2.out rfl (by decide) _ k _ rfl (own1'.kept (gb_alloc (gb_refl w1 none) (.cells #[.int .i64 x] 3)) (by cases hv : Value.ownBlock (.slice A1 n1 c1) <;> simp)) ⟨w1.heap.size, 0, none⟩ 1 1 (iv [x]) rfl rfl (one_new _ _ _) (iv_one _) (by simp only [maxLen]; omega) (by omega) (by simp; omega) ?_; intro v2 w2 own2 grow2 _)
          have g2 : w.grownBy w2 none := gb_step (gb_alloc g1 _) grow2 (fun i e => .inr (own_far own1' i e))
          have hw2 := g2.size
          have Own2 := Lib.hid own2
          clear grow2 own1' own2
          have bk2 : (k : Int) ≤ (n : Int) := by omega
          have bkc : (k : Int) < (c : Int) := by omega
          have bkc2 : k < c := by omega
          have bnc : (n : Int) ≤ (c : Int) := by omega
          go_wp2_with (at_builtin; refine wpList_append_own _ rfl (.tmp 44) (.tmp 47) 87 rfl w.heap.size 3 i0 (.int .i64 0) 1 8 Try.underlying87 Hi0.out Hz0.out Hz1.out Hz2.out rfl (by decide) _ (k + 1) _ rfl Own2.out ⟨g, o + k, none⟩ (n - k) (c - k) (iv (L.drop k)) rfl E3.out (il_back HLn.out HCC.out hgl g2) (iv_one _) (by simp only [maxLen]; omega) (by omega) (by omega) ?_; intro v3 w3 own3 grow3 _)
          have g3 : w.grownBy w3 none := gb_step g2 grow3 (fun i e => .inr (own_far Own2.out i e))
          have hlen : (mk L x).length = k + 1 + (n - k) := by rw [Hc.out, List.length_append, List.length_cons, List.length_take, List.length_drop, HLn.out]; omega
          have hiv : iv (L.take k) ++ iv [x] ++ iv (L.drop k) = iv (mk L x) := by rw [Hc.out]; simp [iv]
          rw [hiv] at own3
          obtain ⟨A3, c3, rfl, hil, hle⟩ := own_il own3 hlen
          clear own3 grow3
          go_ret
          rw [hlen]
          exact ⟨A3, c3, rfl, hil, hle, g3⟩
      · have hkn2 : k = n := by omega
        have d3 : decide (k < n) = false := decide_eq_false hkn
        have d4 : decide ((k : Int) < (n : Int)) = false := decide_eq_false (by omega)
        have Hc : Hid (mk L x = L.take k ++ x :: L.drop k) := mk_cut HM.out.1 (fun y hy => by
          rw [List.drop_eq_nil_of_le (by rw [H.out.1]; omega)] at hy; cases hy)
        by_cases hn0 : n = 0
        · obtain ⟨rfl, rfl⟩ := h0 hn0
          have hk00 : k = 0 := by omega
          have hL0 : L = [] := List.eq_nil_of_length_eq_zero (by rw [H.out.1]; exact hn0)
          have Hc0 : Hid (mk L x = [x]) := by show _ = _; rw [Hc.out, hL0]; simp
          obtain ⟨i0, hi0, hz0, hz1, hz2⟩ := info_parts int_inf
          have Hi0 := Lib.hid hi0
          have Hz0 := Lib.hid hz0
          have Hz1 := Lib.hid hz1
          have Hz2 := Lib.hid hz2
          clear hi0 hz0 hz1 hz2 hL0
          go_upto_region 7 with fail
          go_upto_region 8 with (at_builtin; refine wpList_append_own _ rfl (.tmp 40) (.tmp 42) 87 rfl w.heap.size 3 i0 (.int .i64 0) 1 8 Try.underlying87 Hi0.out Hz0.out Hz1.out Hz2.out rfl (by decide) _ 0 _ rfl ((own_emptyI w _ _ (Nat.le_refl _)).kept (gb_alloc (gb_refl _ none) (.cells #[.int .i64 x] 3)) (.inr (by simp [Value.ownBlock]))) ⟨w.heap.size + 1, 0, none⟩ 1 1 (iv [x]) rfl rfl (by have h := one_new (w.alloc (.cells #[] 3)) x 3; rwa [show (w.alloc (.cells #[] 3)).heap.size = w.heap.size + 1 by simp] at h) (iv_one _) (by decide) (by decide) (by simp; omega) ?_; intro v2 w2 own2 grow2 _)
          have own2' : w2.ownsRow w.heap.size 3 1 v2 1 (iv [x]) := by have h := own2; rw [Nat.zero_add, List.nil_append] at h; exact h
          have g2 : w.grownBy w2 none := gb_step (gb_alloc (gb_alloc (gb_refl _ _) _) _) grow2 (fun i e => .inr (Nat.le_of_eq (Option.some.inj e)))
          obtain ⟨A3, c3, rfl, hil, hle⟩ := own_il own2' rfl
          have Own2 := Lib.hid own2'
          clear own2 own2' grow2
          go_wp2_with (at_builtin; refine wpList_append_own_none rfl (.tmp 44) (.tmp 47) 87 rfl w.heap.size 3 i0 1 Try.underlying87 Hi0.out _ 1 _ rfl Own2.out rfl ?_)
          go_ret
          rw [Hc0.out]
          exact ⟨A3, c3, rfl, hil, hle, g2⟩
        · obtain ⟨g, o, hA, hgl, hcc⟩ := H.out.2 (by omega)
          cases hA
          have HCC := Lib.hid hcc
          have HKN := Lib.hid hkn2
          clear hcc hkn2 hkn
          by_cases hkc : k < c
          · skip
            obtain ⟨i0, hi0, hz0, hz1, hz2⟩ := info_parts int_inf
            have Hi0 := Lib.hid hi0
            have Hz0 := Lib.hid hz0
            have Hz1 := Lib.hid hz1
            have Hz2 := Lib.hid hz2
            have HLn := Lib.hid H.out.1
            clear hi0 hz0 hz1 hz2
            have e1 : (iv (L.take k)).length = k * 1 := by rw [iv_len, List.length_take, HLn.out]; omega
            have E1 := Lib.hid e1
            have e3 : (iv (L.drop k)).length = (n - k) * 1 := by rw [iv_len, List.length_drop, HLn.out]; omega
            have E3 := Lib.hid e3
            clear e1 e3
            go_upto_region 7 with (at_builtin; refine wpList_append_own _ rfl (.tmp 35) (.tmp 38) 87 rfl w.heap.size 3 i0 (.int .i64 0) 1 8 Try.underlying87 Hi0.out Hz0.out Hz1.out Hz2.out rfl (by decide) _ 0 _ rfl (own_emptyI w _ _ (Nat.le_refl _)) ⟨g, o, none⟩ k c (iv (L.take k)) rfl E1.out (il_front HLn.out HCC.out hgl (gb_alloc (gb_refl _ _) _)) (iv_one _) (by simp only [maxLen]; omega) (by omega) (by simp) ?_; intro v1 w1 own1 grow1 _)
            have g1 : w.grownBy w1 none := gb_new (gb_alloc (gb_refl _ _) _) grow1 (Nat.le_refl _)
            have own1' : w1.ownsRow w.heap.size 3 1 v1 k (iv (L.take k)) := by have h := own1; rw [Nat.zero_add, List.nil_append] at h; exact h
            obtain ⟨A1, n1, c1, rfl⟩ : ∃ A m c, v1 = .slice A m c := own_slice1 own1
            have hw1 := g1.size
            clear grow1 own1
            go_upto_region 8 with (at_builtin; refine wpList_append_own _ rfl (.tmp 40) (.tmp 42) 87 rfl w.heap.size 3 i0 (.int .i64 0) 1 8 Try.underlying87 Hi0.out Hz0.out Hz1.out Hz2.out rfl (by decide) _ k _ rfl (own1'.kept (gb_alloc (gb_refl w1 none) (.cells #[.int .i64 x] 3)) (by cases hv : Value.ownBlock (.slice A1 n1 c1) <;> simp)) ⟨w1.heap.size, 0, none⟩ 1 1 (iv [x]) rfl rfl (one_new _ _ _) (iv_one _) (by simp only [maxLen]; omega) (by omega) (by simp; omega) ?_; intro v2 w2 own2 grow2 _)
            have g2 : w.grownBy w2 none := gb_step (gb_alloc g1 _) grow2 (fun i e => .inr (own_far own1' i e))
            have hw2 := g2.size
            have Own2 := Lib.hid own2
            clear grow2 own1' own2
            have bk2 : (k : Int) ≤ (n : Int) := by omega
            have bkc : (k : Int) < (c : Int) := by omega
            have bkc2 : k < c := by omega
            have bnc : (n : Int) ≤ (c : Int) := by omega
            go_wp2_with (at_builtin; refine wpList_append_own _ rfl (.tmp 44) (.tmp 47) 87 rfl w.heap.size 3 i0 (.int .i64 0) 1 8 Try.underlying87 Hi0.out Hz0.out Hz1.out Hz2.out rfl (by decide) _ (k + 1) _ rfl Own2.out ⟨g, o + k, none⟩ (n - k) (c - k) (iv (L.drop k)) rfl E3.out (il_back HLn.out HCC.out hgl g2) (iv_one _) (by simp only [maxLen]; omega) (by omega) (by omega) ?_; intro v3 w3 own3 grow3 _)
            have g3 : w.grownBy w3 none := gb_step g2 grow3 (fun i e => .inr (own_far Own2.out i e))
            have hlen : (mk L x).length = k + 1 + (n - k) := by rw [Hc.out, List.length_append, List.length_cons, List.length_take, List.length_drop, HLn.out]; omega
            have hiv : iv (L.take k) ++ iv [x] ++ iv (L.drop k) = iv (mk L x) := by rw [Hc.out]; simp [iv]
            rw [hiv] at own3
            obtain ⟨A3, c3, rfl, hil, hle⟩ := own_il own3 hlen
            clear own3 grow3
            go_ret
            rw [hlen]
            exact ⟨A3, c3, rfl, hil, hle, g3⟩
          · have hkc2 : ¬ ((k : Int) < (c : Int)) := by omega
            obtain ⟨i0, hi0, hz0, hz1, hz2⟩ := info_parts int_inf
            have Hi0 := Lib.hid hi0
            have Hz0 := Lib.hid hz0
            have Hz1 := Lib.hid hz1
            have Hz2 := Lib.hid hz2
            have HLn := Lib.hid H.out.1
            clear hi0 hz0 hz1 hz2
            have e1 : (iv (L.take k)).length = k * 1 := by rw [iv_len, List.length_take, HLn.out]; omega
            have E1 := Lib.hid e1
            have e3 : (iv (L.drop k)).length = (n - k) * 1 := by rw [iv_len, List.length_drop, HLn.out]; omega
            have E3 := Lib.hid e3
            clear e1 e3
            go_upto_region 7 with (at_builtin; refine wpList_append_own _ rfl (.tmp 35) (.tmp 38) 87 rfl w.heap.size 3 i0 (.int .i64 0) 1 8 Try.underlying87 Hi0.out Hz0.out Hz1.out Hz2.out rfl (by decide) _ 0 _ rfl (own_emptyI w _ _ (Nat.le_refl _)) ⟨g, o, none⟩ k c (iv (L.take k)) rfl E1.out (il_front HLn.out HCC.out hgl (gb_alloc (gb_refl _ _) _)) (iv_one _) (by simp only [maxLen]; omega) (by omega) (by simp) ?_; intro v1 w1 own1 grow1 _)
            have g1 : w.grownBy w1 none := gb_new (gb_alloc (gb_refl _ _) _) grow1 (Nat.le_refl _)
            have own1' : w1.ownsRow w.heap.size 3 1 v1 k (iv (L.take k)) := by have h := own1; rw [Nat.zero_add, List.nil_append] at h; exact h
            obtain ⟨A1, n1, c1, rfl⟩ : ∃ A m c, v1 = .slice A m c := own_slice1 own1
            have hw1 := g1.size
            clear grow1 own1
            go_upto_region 8 with (at_builtin; refine wpList_append_own _ rfl (.tmp 40) (.tmp 42) 87 rfl w.heap.size 3 i0 (.int .i64 0) 1 8 Try.underlying87 Hi0.out Hz0.out Hz1.out Hz2.out rfl (by decide) _ k _ rfl (own1'.kept (gb_alloc (gb_refl w1 none) (.cells #[.int .i64 x] 3)) (by cases hv : Value.ownBlock (.slice A1 n1 c1) <;> simp)) ⟨w1.heap.size, 0, none⟩ 1 1 (iv [x]) rfl rfl (one_new _ _ _) (iv_one _) (by simp only [maxLen]; omega) (by omega) (by simp; omega) ?_; intro v2 w2 own2 grow2 _)
            have g2 : w.grownBy w2 none := gb_step (gb_alloc g1 _) grow2 (fun i e => .inr (own_far own1' i e))
            have hw2 := g2.size
            have Own2 := Lib.hid own2
            clear grow2 own1' own2
            have bk2 : (k : Int) ≤ (n : Int) := by omega
            have bkc : (k : Int) ≤ (c : Int) := by omega
            have bkc2 : k ≤ c := by omega
            have bnc : (n : Int) ≤ (c : Int) := by omega
            go_wp2_with (at_builtin; refine wpList_append_own _ rfl (.tmp 44) (.tmp 47) 87 rfl w.heap.size 3 i0 (.int .i64 0) 1 8 Try.underlying87 Hi0.out Hz0.out Hz1.out Hz2.out rfl (by decide) _ (k + 1) _ rfl Own2.out ⟨g, o, none⟩ (n - k) (c - k) (iv (L.drop k)) rfl E3.out (fun j u hu => by rw [List.drop_eq_nil_of_le (by rw [HLn.out]; have := HKN.out; omega)] at hu; simp [iv] at hu) (iv_one _) (by simp only [maxLen]; omega) (by omega) (by omega) ?_; intro v3 w3 own3 grow3 _)
            have g3 : w.grownBy w3 none := gb_step g2 grow3 (fun i e => .inr (own_far Own2.out i e))
            have hlen : (mk L x).length = k + 1 + (n - k) := by rw [Hc.out, List.length_append, List.length_cons, List.length_take, List.length_drop, HLn.out]; omega
            have hiv : iv (L.take k) ++ iv [x] ++ iv (L.drop k) = iv (mk L x) := by rw [Hc.out]; simp [iv]
            rw [hiv] at own3
            obtain ⟨A3, c3, rfl, hil, hle⟩ := own_il own3 hlen
            clear own3 grow3
            go_ret
            rw [hlen]
            exact ⟨A3, c3, rfl, hil, hle, g3⟩
    · obtain ⟨j, rfl⟩ : ∃ j, k = j + 1 := ⟨k - 1, by omega⟩
      obtain ⟨g, o, rfl, hgl, hcc⟩ := H.out.2 (by omega)
      have hcj := hcc j (by omega)
      obtain ⟨y, hy⟩ : ∃ y, L.getD j 0 = y := ⟨_, rfl⟩
      rw [hy] at hcj
      have d1 : decide ((0 : Int) < ((j + 1 : Nat) : Int)) = true := decide_eq_true (by omega)
      have hb : (j : Int) < (n : Int) := by omega
      by_cases hge : x ≤ y
      · have d2 : decide (x ≤ y) = true := decide_eq_true hge
        have HX2 : Hid (∀ i, j ≤ i → i < n → x ≤ L.getD i 0) := fun i h1 h2 => by
          by_cases e : i = j
          · subst e; rw [hy]; exact hge
          · exact HX.out i (by omega) h2
        clear hge hy hcc
        go_wp2_with fail
        go_roundw
        case rel => exact ⟨j, by omega, by go_num, HX2, trivial⟩
        case measure => simp [intOf]
      · have d2 : decide (x ≤ y) = false := decide_eq_false hge
        have HS : Hid (∀ i, i < j + 1 → L.getD i 0 < x) := fun i h => by
          by_cases e : i = j
          · subst e; rw [hy]; omega
          · have := rising_lt Hr.out (show i < j by omega) (by rw [H.out.1]; omega); rw [hy] at this; omega
        clear hge hy hcc hgl
        go_upto_region 4 with fail
        clear d1 d2 hcj
        try simp only [show ((j : Int) + 1) = ((j + 1 : Nat) : Int) from by omega]
        generalize hjk : j + 1 = k at *
        clear hjk hb
        have HM : Hid ((∀ y ∈ L.take k, y < x) ∧ ∀ y ∈ L.drop k, x ≤ y) := by
          refine ⟨fun y hy => ?_, fun y hy => ?_⟩
          · obtain ⟨i, h1, h2, rfl⟩ := in_take hy
            exact HS.out i h1
          · obtain ⟨i, h1, h2, rfl⟩ := in_drop hy
            exact HX.out i h1 (by rw [← H.out.1]; exact h2)
        by_cases hkn : k < n
        · obtain ⟨g, o, hA, hgl, hcc⟩ := H.out.2 (by omega)
          cases hA
          have hck := hcc k hkn
          have HCC := Lib.hid hcc
          clear hcc
          obtain ⟨y2, hy2⟩ : ∃ y, L.getD k 0 = y := ⟨_, rfl⟩
          rw [hy2] at hck
          have d3 : decide (k < n) = true := decide_eq_true hkn
          have d4 : decide ((k : Int) < (n : Int)) = true := decide_eq_true (by omega)
          have bk : (k : Int) < (n : Int) := by omega
          by_cases e : y2 = x
          · subst e
            have f1 : (y2 == y2) = true := by simp
            have Hm : Hid (mk L y2 = L) := mk_has Hr.out (k := k) (by
              have hKL : k < L.length := by rw [H.out.1]; exact hkn
              rw [List.getElem?_eq_getElem hKL, ← hy2, List.getD_eq_getElem?_getD, List.getElem?_eq_getElem hKL]; rfl)
            have HL1 := Lib.hid H.out.1
            clear hy2
            go_wp2_with fail
            go_ret
            rw [Hm.out, HL1.out]
            exact ⟨_, c, rfl, H.out, hc, gb_refl _ _⟩
          · have f1 : (y2 == x) = false := by rw [beq_eq_false_iff_ne]; exact e
            have Hc : Hid (mk L x = L.take k ++ x :: L.drop k) := mk_cut HM.out.1 (fun y hy => by
              have h1 := HM.out.2 y hy
              obtain ⟨i, h2, h3, h4⟩ := in_drop hy
              by_cases e2 : i = k
              · subst e2; rw [hy2] at h4; omega
              · have := rising_lt Hr.out (show k < i by omega) h3; rw [hy2] at this
                have h5 := HX.out k (Nat.le_refl _) hkn
                rw [hy2] at h5; omega)
            clear e hy2
            obtain ⟨i0, hi0, hz0, hz1, hz2⟩ := info_parts int_inf
            have Hi0 := Lib.hid hi0
            have Hz0 := Lib.hid hz0
            have Hz1 := Lib.hid hz1
            have Hz2 := Lib.hid hz2
            have HLn := Lib.hid H.out.1
            clear hi0 hz0 hz1 hz2
            have e1 : (iv (L.take k)).length = k * 1 := by rw [iv_len, List.length_take, HLn.out]; omega
            have E1 := Lib.hid e1
            have e3 : (iv (L.drop k)).length = (n - k) * 1 := by rw [iv_len, List.length_drop, HLn.out]; omega
            have E3 := Lib.hid e3
            clear e1 e3
            go_upto_region 7 with (at_builtin; refine wpList_append_own _ rfl (.tmp 35) (.tmp 38) 87 rfl w.heap.size 3 i0 (.int .i64 0) 1 8 Try.underlying87 Hi0.out Hz0.out Hz1.out Hz2.out rfl (by decide) _ 0 _ rfl (own_emptyI w _ _ (Nat.le_refl _)) ⟨g, o, none⟩ k c (iv (L.take k)) rfl E1.out (il_front HLn.out HCC.out hgl (gb_alloc (gb_refl _ _) _)) (iv_one _) (by simp only [maxLen]; omega) (by omega) (by simp) ?_; intro v1 w1 own1 grow1 _)
            have g1 : w.grownBy w1 none := gb_new (gb_alloc (gb_refl _ _) _) grow1 (Nat.le_refl _)
            have own1' : w1.ownsRow w.heap.size 3 1 v1 k (iv (L.take k)) := by have h := own1; rw [Nat.zero_add, List.nil_append] at h; exact h
            obtain ⟨A1, n1, c1, rfl⟩ : ∃ A m c, v1 = .slice A m c := own_slice1 own1
            have hw1 := g1.size
            clear grow1 own1
            go_upto_region 8 with (at_builtin; refine wpList_append_own _ rfl (.tmp 40) (.tmp 42) 87 rfl w.heap.size 3 i0 (.int .i64 0) 1 8 Try.underlying87 Hi0.out Hz0.out Hz1.out Hz2.out rfl (by decide) _ k _ rfl (own1'.kept (gb_alloc (gb_refl w1 none) (.cells #[.int .i64 x] 3)) (by cases hv : Value.ownBlock (.slice A1 n1 c1) <;> simp)) ⟨w1.heap.size, 0, none⟩ 1 1 (iv [x]) rfl rfl (one_new _ _ _) (iv_one _) (by simp only [maxLen]; omega) (by omega) (by simp; omega) ?_; intro v2 w2 own2 grow2 _)
            have g2 : w.grownBy w2 none := gb_step (gb_alloc g1 _) grow2 (fun i e => .inr (own_far own1' i e))
            have hw2 := g2.size
            have Own2 := Lib.hid own2
            clear grow2 own1' own2
            have bk2 : (k : Int) ≤ (n : Int) := by omega
            have bkc : (k : Int) < (c : Int) := by omega
            have bkc2 : k < c := by omega
            have bnc : (n : Int) ≤ (c : Int) := by omega
            go_wp2_with (at_builtin; refine wpList_append_own _ rfl (.tmp 44) (.tmp 47) 87 rfl w.heap.size 3 i0 (.int .i64 0) 1 8 Try.underlying87 Hi0.out Hz0.out Hz1.out Hz2.out rfl (by decide) _ (k + 1) _ rfl Own2.out ⟨g, o + k, none⟩ (n - k) (c - k) (iv (L.drop k)) rfl E3.out (il_back HLn.out HCC.out hgl g2) (iv_one _) (by simp only [maxLen]; omega) (by omega) (by omega) ?_; intro v3 w3 own3 grow3 _)
            have g3 : w.grownBy w3 none := gb_step g2 grow3 (fun i e => .inr (own_far Own2.out i e))
            have hlen : (mk L x).length = k + 1 + (n - k) := by rw [Hc.out, List.length_append, List.length_cons, List.length_take, List.length_drop, HLn.out]; omega
            have hiv : iv (L.take k) ++ iv [x] ++ iv (L.drop k) = iv (mk L x) := by rw [Hc.out]; simp [iv]
            rw [hiv] at own3
            obtain ⟨A3, c3, rfl, hil, hle⟩ := own_il own3 hlen
            clear own3 grow3
            go_ret
            rw [hlen]
            exact ⟨A3, c3, rfl, hil, hle, g3⟩
        · have hkn2 : k = n := by omega
          have d3 : decide (k < n) = false := decide_eq_false hkn
          have d4 : decide ((k : Int) < (n : Int)) = false := decide_eq_false (by omega)
          have Hc : Hid (mk L x = L.take k ++ x :: L.drop k) := mk_cut HM.out.1 (fun y hy => by
            rw [List.drop_eq_nil_of_le (by rw [H.out.1]; omega)] at hy; cases hy)
          by_cases hn0 : n = 0
          · exact absurd (h0 hn0).1 (by simp)
          · obtain ⟨g, o, hA, hgl, hcc⟩ := H.out.2 (by omega)
            cases hA
            have HCC := Lib.hid hcc
            have HKN := Lib.hid hkn2
            clear hcc hkn2 hkn
            by_cases hkc : k < c
            · skip
              obtain ⟨i0, hi0, hz0, hz1, hz2⟩ := info_parts int_inf
              have Hi0 := Lib.hid hi0
              have Hz0 := Lib.hid hz0
              have Hz1 := Lib.hid hz1
              have Hz2 := Lib.hid hz2
              have HLn := Lib.hid H.out.1
              clear hi0 hz0 hz1 hz2
              have e1 : (iv (L.take k)).length = k * 1 := by rw [iv_len, List.length_take, HLn.out]; omega
              have E1 := Lib.hid e1
              have e3 : (iv (L.drop k)).length = (n - k) * 1 := by rw [iv_len, List.length_drop, HLn.out]; omega
              have E3 := Lib.hid e3
              clear e1 e3
              go_upto_region 7 with (at_builtin; refine wpList_append_own _ rfl (.tmp 35) (.tmp 38) 87 rfl w.heap.size 3 i0 (.int .i64 0) 1 8 Try.underlying87 Hi0.out Hz0.out Hz1.out Hz2.out rfl (by decide) _ 0 _ rfl (own_emptyI w _ _ (Nat.le_refl _)) ⟨g, o, none⟩ k c (iv (L.take k)) rfl E1.out (il_front HLn.out HCC.out hgl (gb_alloc (gb_refl _ _) _)) (iv_one _) (by simp only [maxLen]; omega) (by omega) (by simp) ?_; intro v1 w1 own1 grow1 _)
              have g1 : w.grownBy w1 none := gb_new (gb_alloc (gb_refl _ _) _) grow1 (Nat.le_refl _)
              have own1' : w1.ownsRow w.heap.size 3 1 v1 k (iv (L.take k)) := by have h := own1; rw [Nat.zero_add, List.nil_append] at h; exact h
              obtain ⟨A1, n1, c1, rfl⟩ : ∃ A m c, v1 = .slice A m c := own_slice1 own1
              have hw1 := g1.size
              clear grow1 own1
              go_upto_region 8 with (at_builtin; refine wpList_append_own _ rfl (.tmp 40) (.tmp 42) 87 rfl w.heap.size 3 i0 (.int .i64 0) 1 8 Try.underlying87 Hi0.out Hz0.out Hz1.out Hz2.out rfl (by decide) _ k _ rfl (own1'.kept (gb_alloc (gb_refl w1 none) (.cells #[.int .i64 x] 3)) (by cases hv : Value.ownBlock (.slice A1 n1 c1) <;> simp)) ⟨w1.heap.size, 0, none⟩ 1 1 (iv [x]) rfl rfl (one_new _ _ _) (iv_one _) (by simp only [maxLen]; omega) (by omega) (by simp; omega) ?_; intro v2 w2 own2 grow2 _)
              have g2 : w.grownBy w2 none := gb_step (gb_alloc g1 _) grow2 (fun i e => .inr (own_far own1' i e))
              have hw2 := g2.size
              have Own2 := Lib.hid own2
              clear grow2 own1' own2
              have bk2 : (k : Int) ≤ (n : Int) := by omega
              have bkc : (k : Int) < (c : Int) := by omega
              have bkc2 : k < c := by omega
              have bnc : (n : Int) ≤ (c : Int) := by omega
              go_wp2_with (at_builtin; refine wpList_append_own _ rfl (.tmp 44) (.tmp 47) 87 rfl w.heap.size 3 i0 (.int .i64 0) 1 8 Try.underlying87 Hi0.out Hz0.out Hz1.out Hz2.out rfl (by decide) _ (k + 1) _ rfl Own2.out ⟨g, o + k, none⟩ (n - k) (c - k) (iv (L.drop k)) rfl E3.out (il_back HLn.out HCC.out hgl g2) (iv_one _) (by simp only [maxLen]; omega) (by omega) (by omega) ?_; intro v3 w3 own3 grow3 _)
              have g3 : w.grownBy w3 none := gb_step g2 grow3 (fun i e => .inr (own_far Own2.out i e))
              have hlen : (mk L x).length = k + 1 + (n - k) := by rw [Hc.out, List.length_append, List.length_cons, List.length_take, List.length_drop, HLn.out]; omega
              have hiv : iv (L.take k) ++ iv [x] ++ iv (L.drop k) = iv (mk L x) := by rw [Hc.out]; simp [iv]
              rw [hiv] at own3
              obtain ⟨A3, c3, rfl, hil, hle⟩ := own_il own3 hlen
              clear own3 grow3
              go_ret
              rw [hlen]
              exact ⟨A3, c3, rfl, hil, hle, g3⟩
            · have hkc2 : ¬ ((k : Int) < (c : Int)) := by omega
              obtain ⟨i0, hi0, hz0, hz1, hz2⟩ := info_parts int_inf
              have Hi0 := Lib.hid hi0
              have Hz0 := Lib.hid hz0
              have Hz1 := Lib.hid hz1
              have Hz2 := Lib.hid hz2
              have HLn := Lib.hid H.out.1
              clear hi0 hz0 hz1 hz2
              have e1 : (iv (L.take k)).length = k * 1 := by rw [iv_len, List.length_take, HLn.out]; omega
              have E1 := Lib.hid e1
              have e3 : (iv (L.drop k)).length = (n - k) * 1 := by rw [iv_len, List.length_drop, HLn.out]; omega
              have E3 := Lib.hid e3
              clear e1 e3
              go_upto_region 7 with (at_builtin; refine wpList_append_own _ rfl (.tmp 35) (.tmp 38) 87 rfl w.heap.size 3 i0 (.int .i64 0) 1 8 Try.underlying87 Hi0.out Hz0.out Hz1.out Hz2.out rfl (by decide) _ 0 _ rfl (own_emptyI w _ _ (Nat.le_refl _)) ⟨g, o, none⟩ k c (iv (L.take k)) rfl E1.out (il_front HLn.out HCC.out hgl (gb_alloc (gb_refl _ _) _)) (iv_one _) (by simp only [maxLen]; omega) (by omega) (by simp) ?_; intro v1 w1 own1 grow1 _)
              have g1 : w.grownBy w1 none := gb_new (gb_alloc (gb_refl _ _) _) grow1 (Nat.le_refl _)
              have own1' : w1.ownsRow w.heap.size 3 1 v1 k (iv (L.take k)) := by have h := own1; rw [Nat.zero_add, List.nil_append] at h; exact h
              obtain ⟨A1, n1, c1, rfl⟩ : ∃ A m c, v1 = .slice A m c := own_slice1 own1
              have hw1 := g1.size
              clear grow1 own1
              go_upto_region 8 with (at_builtin; refine wpList_append_own _ rfl (.tmp 40) (.tmp 42) 87 rfl w.heap.size 3 i0 (.int .i64 0) 1 8 Try.underlying87 Hi0.out Hz0.out Hz1.out Hz2.out rfl (by decide) _ k _ rfl (own1'.kept (gb_alloc (gb_refl w1 none) (.cells #[.int .i64 x] 3)) (by cases hv : Value.ownBlock (.slice A1 n1 c1) <;> simp)) ⟨w1.heap.size, 0, none⟩ 1 1 (iv [x]) rfl rfl (one_new _ _ _) (iv_one _) (by simp only [maxLen]; omega) (by omega) (by simp; omega) ?_; intro v2 w2 own2 grow2 _)
              have g2 : w.grownBy w2 none := gb_step (gb_alloc g1 _) grow2 (fun i e => .inr (own_far own1' i e))
              have hw2 := g2.size
              have Own2 := Lib.hid own2
              clear grow2 own1' own2
              have bk2 : (k : Int) ≤ (n : Int) := by omega
              have bkc : (k : Int) ≤ (c : Int) := by omega
              have bkc2 : k ≤ c := by omega
              have bnc : (n : Int) ≤ (c : Int) := by omega
              go_wp2_with (at_builtin; refine wpList_append_own _ rfl (.tmp 44) (.tmp 47) 87 rfl w.heap.size 3 i0 (.int .i64 0) 1 8 Try.underlying87 Hi0.out Hz0.out Hz1.out Hz2.out rfl (by decide) _ (k + 1) _ rfl Own2.out ⟨g, o, none⟩ (n - k) (c - k) (iv (L.drop k)) rfl E3.out (fun j u hu => by rw [List.drop_eq_nil_of_le (by rw [HLn.out]; have := HKN.out; omega)] at hu; simp [iv] at hu) (iv_one _) (by simp only [maxLen]; omega) (by omega) (by omega) ?_; intro v3 w3 own3 grow3 _)
              have g3 : w.grownBy w3 none := gb_step g2 grow3 (fun i e => .inr (own_far Own2.out i e))
              have hlen : (mk L x).length = k + 1 + (n - k) := by rw [Hc.out, List.length_append, List.length_cons, List.length_take, List.length_drop, HLn.out]; omega
              have hiv : iv (L.take k) ++ iv [x] ++ iv (L.drop k) = iv (mk L x) := by rw [Hc.out]; simp [iv]
              rw [hiv] at own3
              obtain ⟨A3, c3, rfl, hil, hle⟩ := own_il own3 hlen
              clear own3 grow3
              go_ret
              rw [hlen]
              exact ⟨A3, c3, rfl, hil, hle, g3⟩
end Go.Proofs.Ytblndpfgfakdeaa.Dt
