/- How many dots, how many runs: counted over a table. -/
import Derived.Test.YtkibojoochlggaaDtEdge
import Derived.Deep.OwnRows
namespace Go.Proofs.Ytkibojoochlggaa.Dt
open Go Go.RowKit Go.Proofs.Ytkibojoochlggaa.Mm

theorem w64 {x : Int} (h0 : 0 ≤ x) (h1 : x ≤ 1000) : wrap64 x = x := by unfold wrap64; omega
theorem iw64 {x : Int} (h0 : 0 ≤ x) (h1 : x ≤ 1000) : IntKind.i64.wrap x = x := by rw [IntKind.wrap_i64]; omega
/-- The dots of the table's first q places; where a run begins. -/
def cntN (l : List Rn) (q : Nat) : Nat := (List.range q).countP fun q => hasB l ((q / 20 : Nat) : Int) ((q % 20 : Nat) + 1 : Int)
def endN (l : List Rn) (q : Nat) : Nat := (List.range q).countP fun q => hasB l ((q / 20 : Nat) : Int) ((q % 20 : Nat) + 1 : Int) && !hasB l ((q / 20 : Nat) : Int) ((q % 20 : Nat) : Int)
def sumR : List Rn → Int
  | [] => 0
  | r :: l => (r.t - r.f + 1) + sumR l
theorem cntN_le (l : List Rn) (q : Nat) : cntN l q ≤ q := by
  unfold cntN
  have := List.countP_le_length (p := fun q => hasB l ((q / 20 : Nat) : Int) ((q % 20 : Nat) + 1 : Int)) (l := List.range q)
  rwa [List.length_range] at this
theorem endN_le (l : List Rn) (q : Nat) : endN l q ≤ q := by
  unfold endN
  have := List.countP_le_length (p := fun q => hasB l ((q / 20 : Nat) : Int) ((q % 20 : Nat) + 1 : Int) && !hasB l ((q / 20 : Nat) : Int) ((q % 20 : Nat) : Int)) (l := List.range q)
  rwa [List.length_range] at this
theorem cntN_succ (l : List Rn) (d k : Nat) (hk : k < 20) : cntN l (20 * d + k + 1) = cntN l (20 * d + k) + if hasB l (d : Int) ((k : Int) + 1) = true then 1 else 0 := by
  unfold cntN
  rw [List.range_succ, List.countP_append, List.countP_singleton, show (20 * d + k) / 20 = d by omega, show (20 * d + k) % 20 = k by omega]
theorem endN_succ (l : List Rn) (d k : Nat) (hk : k < 20) : endN l (20 * d + k + 1) = endN l (20 * d + k) + if (hasB l (d : Int) ((k : Int) + 1) && !hasB l (d : Int) (k : Int)) = true then 1 else 0 := by
  unfold endN
  rw [List.range_succ, List.countP_append, List.countP_singleton, show (20 * d + k) / 20 = d by omega, show (20 * d + k) % 20 = k by omega]
theorem cntN_step {l : List Rn} {d k : Nat} {x : Bool} (hk : k < 20) (hx : hasB l (d : Int) ((k : Int) + 1) = x) : cntN l (20 * d + k + 1) = cntN l (20 * d + k) + if x = true then 1 else 0 := by subst hx; exact cntN_succ l d k hk
theorem endN_step {l : List Rn} {d k : Nat} {x z : Bool} (hk : k < 20) (hx : hasB l (d : Int) ((k : Int) + 1) = x) (hz : hasB l (d : Int) (k : Int) = z) : endN l (20 * d + k + 1) = endN l (20 * d + k) + if (x && !z) = true then 1 else 0 := by subst hx; subst hz; exact endN_succ l d k hk
theorem countP_or {α : Type} (p q : α → Bool) (h : ∀ x, p x = true → q x = true → False) : ∀ l : List α, l.countP (fun x => p x || q x) = l.countP p + l.countP q
  | [] => rfl
  | x :: l => by
    rw [List.countP_cons, List.countP_cons, List.countP_cons, countP_or p q h l]
    cases hp : p x <;> cases hq : q x <;> simp <;> first | omega | exact (h x hp hq).elim
theorem count_interval (a b : Nat) : ∀ n, b < n → a ≤ b → (List.range n).countP (fun q => decide (a ≤ q ∧ q ≤ b)) = b + 1 - a
  | n + 1, hn, hab => by
    rw [List.range_succ, List.countP_append, List.countP_singleton]
    by_cases hb : b < n
    · rw [count_interval a b n hb hab, if_neg (by simp; omega)]; rfl
    · have hbn : b = n := by omega
      subst hbn
      rw [if_pos (by simp; omega)]
      by_cases ha : a = b
      · subst ha
        have : (List.range a).countP (fun q => decide (a ≤ q ∧ q ≤ a)) = 0 := by
          rw [List.countP_eq_zero]
          intro q hq
          rw [List.mem_range] at hq
          simp; omega
        rw [this]; omega
      · obtain ⟨c, rfl⟩ : ∃ c, b = c + 1 := ⟨b - 1, by omega⟩
        have e : (List.range (c + 1)).countP (fun q => decide (a ≤ q ∧ q ≤ c + 1)) = (List.range (c + 1)).countP (fun q => decide (a ≤ q ∧ q ≤ c)) := by
          refine List.countP_congr fun q hq => ?_
          rw [List.mem_range] at hq
          simp; omega
        rw [e, count_interval a c (c + 1) (by omega) (by omega)]; omega
theorem hasB_cons (r : Rn) (l : List Rn) (d n : Int) : hasB (r :: l) d n = (decide (In r d n) || hasB l d n) := by
  unfold hasB; rw [List.any_cons]
def Small (l : List Rn) : Prop := ∀ r ∈ l, 0 ≤ r.d ∧ r.d < 4 ∧ 1 ≤ r.f ∧ r.f ≤ r.t ∧ r.t ≤ 20
theorem cnt_sum : ∀ l : List Rn, May l → Small l → ((cntN l 80 : Nat) : Int) = sumR l
  | [], _, _ => by
    have : cntN [] 80 = 0 := by unfold cntN; rw [List.countP_eq_zero]; intro q _; simp [hasB]
    rw [this]; rfl
  | r :: l, hm, hs => by
    have ih := cnt_sum l hm.tail fun x hx => hs x (by simp [hx])
    obtain ⟨r1, r2, r3, r4, r5⟩ := hs r (by simp)
    have e : cntN (r :: l) 80 = (List.range 80).countP (fun q => decide (In r ((q / 20 : Nat) : Int) ((q % 20 : Nat) + 1 : Int))) + cntN l 80 := by
      unfold cntN
      rw [← countP_or]
      · refine List.countP_congr fun q _ => ?_
        rw [hasB_cons]
      · intro q h1 h2
        rw [hasB_iff] at h2
        exact ((tail_has hm _ _).1 h2).2 (of_decide_eq_true h1)
    obtain ⟨D, hD⟩ : ∃ D : Nat, r.d = (D : Int) := ⟨r.d.toNat, by omega⟩
    obtain ⟨f, hf⟩ : ∃ f : Nat, r.f = (f : Int) + 1 := ⟨(r.f - 1).toNat, by omega⟩
    obtain ⟨t, ht⟩ : ∃ t : Nat, r.t = (t : Int) + 1 := ⟨(r.t - 1).toNat, by omega⟩
    have e2 : (List.range 80).countP (fun q => decide (In r ((q / 20 : Nat) : Int) ((q % 20 : Nat) + 1 : Int))) = t + 1 - f := by
      have := count_interval (20 * D + f) (20 * D + t) 80 (by omega) (by omega)
      rw [show 20 * D + t + 1 - (20 * D + f) = t + 1 - f by omega] at this
      rw [← this]
      refine List.countP_congr fun q hq => ?_
      rw [List.mem_range] at hq
      rw [decide_eq_true_eq, decide_eq_true_eq]
      show (r.d = ((q / 20 : Nat) : Int) ∧ r.f ≤ ((q % 20 : Nat) + 1 : Int) ∧ ((q % 20 : Nat) + 1 : Int) ≤ r.t) ↔ _
      omega
    rw [e, e2, sumR, ← ih]
    omega
theorem end_len : ∀ l : List Rn, May l → Small l → endN l 80 = l.length
  | [], _, _ => by unfold endN; rw [List.countP_eq_zero.2]; · rfl
                   · intro q _; simp [hasB]
  | r :: l, hm, hs => by
    have ih := end_len l hm.tail fun x hx => hs x (by simp [hx])
    obtain ⟨r1, r2, r3, r4, r5⟩ := hs r (by simp)
    obtain ⟨D, hD⟩ : ∃ D : Nat, r.d = (D : Int) := ⟨r.d.toNat, by omega⟩
    obtain ⟨f, hf⟩ : ∃ f : Nat, r.f = (f : Int) + 1 := ⟨(r.f - 1).toNat, by omega⟩
    have hb := hm.bef
    have key : ∀ d n : Int, ((In r d n ∨ Has l d n) ∧ ¬ (In r d (n - 1) ∨ Has l d (n - 1))) ↔ ((d = r.d ∧ n = r.f) ∨ (Has l d n ∧ ¬ Has l d (n - 1))) := fun d n => by
      constructor
      · rintro ⟨h | h, hn⟩
        · left
          obtain ⟨h1, h2, h3⟩ := h
          refine ⟨h1.symm, ?_⟩
          by_cases e : n = r.f
          · exact e
          · exact absurd (Or.inl ⟨h1, by omega, by omega⟩) hn
        · exact .inr ⟨h, fun h2 => hn (.inr h2)⟩
      · rintro (⟨rfl, rfl⟩ | ⟨h, hn⟩)
        · refine ⟨.inl ⟨rfl, Int.le_refl _, r4⟩, ?_⟩
          rintro (⟨_, h2, _⟩ | ⟨x, hx, h1, h2, h3⟩)
          · omega
          · rcases hb x hx with k | ⟨k1, k2⟩ <;> omega
        · refine ⟨.inr h, ?_⟩
          rintro (⟨h1, h2, h3⟩ | h2)
          · obtain ⟨x, hx, x1, x2, x3⟩ := h
            rcases hb x hx with k | ⟨k1, k2⟩ <;> omega
          · exact hn h2
    have e : endN (r :: l) 80 = (List.range 80).countP (fun q => decide (20 * D + f ≤ q ∧ q ≤ 20 * D + f)) + endN l 80 := by
      unfold endN
      rw [← countP_or]
      · refine List.countP_congr fun q hq => ?_
        rw [List.mem_range] at hq
        have hk := key ((q / 20 : Nat) : Int) ((q % 20 : Nat) + 1 : Int)
        rw [show ((q % 20 : Nat) + 1 : Int) - 1 = ((q % 20 : Nat) : Int) by omega] at hk
        rw [hasB_cons, hasB_cons, Bool.or_eq_true, Bool.and_eq_true, Bool.and_eq_true, Bool.or_eq_true, Bool.not_eq_true', Bool.not_eq_true', Bool.or_eq_false_iff, decide_eq_true_eq, decide_eq_true_eq, decide_eq_false_iff_not, hasB_iff, Bool.eq_false_iff, ne_eq, hasB_iff]
        rw [not_or] at hk
        rw [hk]
        constructor
        · rintro (h | h)
          · exact .inl (by omega)
          · exact .inr h
        · rintro (h | h)
          · exact .inl (by omega)
          · exact .inr h
      · intro q h1 h2
        have h1 := of_decide_eq_true h1
        rw [Bool.and_eq_true, hasB_iff] at h2
        have h3 := ((tail_has hm _ _).1 h2.1).2
        exact h3 ⟨by omega, by omega, by omega⟩
    rw [e, count_interval _ _ 80 (by omega) (Nat.le_refl _), ih, List.length_cons]
    omega
theorem set_small (bs : List Int) (hb : ∀ x ∈ bs, 0 ≤ x ∧ x ≤ 255) : Small (ofR [] (dotsN bs)) := fun r hr => by
  have hm := of_may (dotsN bs)
  obtain ⟨k1, k2, k3, k4, k5⟩ := hm.1 r hr
  have h1 := (of_has (dotsN bs) r.d r.t).1 ⟨r, hr, rfl, k4, Int.le_refl _⟩
  obtain ⟨b, hbm, e⟩ := List.mem_map.1 h1.1
  obtain ⟨b0, b1⟩ := hb b hbm
  unfold dotN at e
  have e1 : b % 4 = r.d := congrArg Prod.fst e
  have e2 : 1 + b / 4 % 20 = r.t := congrArg Prod.snd e
  exact ⟨k1, by omega, k3, k4, by omega⟩
/-! The table. -/
def tb (l : List Rn) : Array Value := ((List.range 88).map fun j => Value.bool (hasB l ((j / 22 : Nat) : Int) ((j % 22 : Nat) : Int))).toArray
theorem tb_at (l : List Rn) (j : Nat) (hj : j < 88) : (tb l)[j]? = some (.bool (hasB l ((j / 22 : Nat) : Int) ((j % 22 : Nat) : Int))) := by
  unfold tb
  rw [List.getElem?_toArray, List.getElem?_map, List.getElem?_range hj]; rfl
theorem tb_size (l : List Rn) : (tb l).size = 88 := by unfold tb; simp
theorem tb_nil : tb [] = madeCells #[.bool false] 88 := by
  apply Array.ext_getElem?
  intro i
  by_cases h : i < 88
  · rw [tb_at _ _ h]; simp [madeCells, h, Nat.mod_one, hasB]
  · rw [Array.getElem?_eq_none (by rw [tb_size]; omega), Array.getElem?_eq_none (by rw [size_madeCells]; omega)]
theorem bool_info : (Try.prog.info? 4).map (fun i => (i.zero, i.size, i.bytes)) = some (some (.bool false), 1, 1) := by kernel_rfl
theorem make_table (W : World) : (Instr.makeSlice 43 (.int .i64 88) (.int .i64 88)).run Try.prog W = .ok (.slice (some ⟨W.heap.size, 0, none⟩) 88 88) (W.alloc (.cells (tb []) 4)) := by
  have := run_make_row' (P := Try.prog) 43 4 (.bool false) 1 Try.underlying43 bool_info rfl .i64 .i64 88 (by omega) (by omega) W
  rw [tb_nil]
  exact this
theorem hasB_of (L : List (Int × Int)) (d n : Int) : hasB (ofR [] L) d n = decide ((d, n) ∈ L ∧ Ok ⟨d, n, n⟩) := by
  rw [Bool.eq_iff_iff, hasB_iff, of_has, decide_eq_true_eq]
/-- One number more in the table. -/
theorem tb_more {bs : List Int} {k J : Nat} {b : Int} (hb : bs[k]? = some b) (hJ : (J : Int) = b % 4 * 22 + 1 + b / 4 % 20) : (tb (ofR [] (dotsN (bs.take k)))).setIfInBounds J (.bool true) = tb (ofR [] (dotsN (bs.take (k + 1)))) := by
  apply Array.ext_getElem?
  intro i
  by_cases hi : i < 88
  · rw [tb_at _ _ hi, Array.getElem?_setIfInBounds, tb_size, tb_at _ _ hi, hasB_of, hasB_of]
    have hm : dotsN (bs.take (k + 1)) = dotsN (bs.take k) ++ [dotN b] := by
      rw [List.take_add_one, hb]; unfold dotsN; rw [List.map_append]; rfl
    rw [hm]
    by_cases hij : J = i
    · rw [if_pos hij, if_pos (by omega)]
      have e1 : ((i / 22 : Nat) : Int) = b % 4 := by omega
      have e2 : ((i % 22 : Nat) : Int) = 1 + b / 4 % 20 := by omega
      rw [e1, e2]
      have : decide (((b % 4, 1 + b / 4 % 20) : Int × Int) ∈ dotsN (bs.take k) ++ [dotN b] ∧ Ok ⟨b % 4, 1 + b / 4 % 20, 1 + b / 4 % 20⟩) = true := decide_eq_true ⟨by simp [dotN], dotN_ok b⟩
      rw [this]
    · rw [if_neg hij]
      congr 2
      apply decide_eq_decide.2
      rw [List.mem_append, List.mem_singleton]
      constructor
      · rintro ⟨h1, h2⟩; exact ⟨.inl h1, h2⟩
      · rintro ⟨h1 | h1, h2⟩
        · exact ⟨h1, h2⟩
        · exfalso
          unfold dotN at h1
          have e1 : ((i / 22 : Nat) : Int) = b % 4 := congrArg Prod.fst h1
          have e2 : ((i % 22 : Nat) : Int) = 1 + b / 4 % 20 := congrArg Prod.snd h1
          omega
  · rw [Array.getElem?_eq_none (by rw [Array.size_setIfInBounds, tb_size]; omega), Array.getElem?_eq_none (by rw [tb_size]; omega)]
/-- The places in the table of a device's k-th dot. -/
theorem idx {d k : Nat} (hd : d < 4) (hk : k < 20) : ∃ P J K : Nat, ((d : Int) * 22 = (P : Int)) ∧ ((P : Int) + ((k : Int) + 1) = (J : Int)) ∧ ((J : Int) - 1 = (K : Int)) ∧ (J : Int) < 88 ∧ (K : Int) < 88 ∧ J < 88 ∧ K < 88 ∧ J / 22 = d ∧ ((J % 22 : Nat) : Int) = (k : Int) + 1 ∧ K / 22 = d ∧ ((K % 22 : Nat) : Int) = (k : Int) ∧ IntKind.i64.wrap (P : Int) = (P : Int) ∧ IntKind.i64.wrap (J : Int) = (J : Int) ∧ IntKind.i64.wrap (K : Int) = (K : Int) ∧ wrap64 (P : Int) = (P : Int) ∧ wrap64 (J : Int) = (J : Int) ∧ wrap64 (K : Int) = (K : Int) :=
  ⟨d * 22, d * 22 + (k + 1), d * 22 + k, by omega, by omega, by omega, by omega, by omega, by omega, by omega, by omega, by omega, by omega, by omega, iw64 (by omega) (by omega), iw64 (by omega) (by omega), iw64 (by omega) (by omega), w64 (by omega) (by omega), w64 (by omega) (by omega), w64 (by omega) (by omega)⟩
theorem cnt_b (l : List Rn) {d k : Nat} (hd : d < 4) (hk : k < 20) : (cntN l (20 * d + k) : Int) ≤ 100 := by have := cntN_le l (20 * d + k); omega
theorem end_b (l : List Rn) {d k : Nat} (hd : d < 4) (hk : k < 20) : (endN l (20 * d + k) : Int) ≤ 100 := by have := endN_le l (20 * d + k); omega
theorem sumR_bound (l : List Rn) (hs : Small l) : 0 ≤ sumR l ∧ sumR l ≤ 20 * (l.length : Int) := by
  induction l with
  | nil => exact ⟨Int.le_refl _, by simp [sumR]⟩
  | cons r l ih =>
    obtain ⟨h1, h2⟩ := ih fun x hx => hs x (by simp [hx])
    obtain ⟨r1, r2, r3, r4, r5⟩ := hs r (by simp)
    rw [sumR, List.length_cons]
    omega
theorem sumR_drop {l : List Rn} {k : Nat} {x : Rn} (hx : l[k]? = some x) : sumR (l.drop k) = (x.t - x.f + 1) + sumR (l.drop (k + 1)) := by
  have hi : k < l.length := (List.getElem?_eq_some_iff.1 hx).1
  rw [List.drop_eq_getElem_cons hi, (List.getElem?_eq_some_iff.1 hx).2, sumR]
end Go.Proofs.Ytkibojoochlggaa.Dt
