/- The document's Eight and four, of whatever number. -/
import Derived.Test.YtbammjhafgbfkaaDoorVOwn
import Derived.Test.YtbammjhafgbfkaaDoorVDeep
namespace Go.Proofs.YtbammjhafgbfkaaDoor
open Go.RowKit Wd Mm Vw

theorem bytes_one (l : List UInt8) : ∀ u ∈ l.map w8, u.oneCell' = true := by
  intro u hu
  simp only [List.mem_map] at hu
  obtain ⟨x, _, rfl⟩ := hu
  rfl
theorem cell_new {w : World} {t : TypeId} (u : Value) : ∀ j v, ([u] : List Value)[j]? = some v → (w.alloc (.cells #[u] t)).cell? ((⟨w.heap.size, 0, none⟩ : Addr).add j) = some v := fun j v hv => by
  have hj : j = 0 := by
    rcases j with _ | j
    · rfl
    · simp at hv
  subst hj
  have hadd : (⟨w.heap.size, 0, none⟩ : Addr).add 0 = ⟨w.heap.size, 0, none⟩ := by unfold Addr.add; split <;> simp_all
  rw [hadd, ← hv]
  exact cell_of_row _ _ 0 #[u] t (0, 0) (heap_alloc_new _ _)
/-- An owned row of bytes, as a string. -/
theorem own_string {w : World} {base : Nat} {v : Value} {n : Nat} {l : List UInt8} (h : w.ownsRow base 5 1 v n (l.map w8)) (h0 : 0 < n) : (convert 35 9 v).run Tryd.prog w = .ok (.string ⟨l.toArray⟩) w := by
  have hl : l.length = n := by have := h.1; simpa using this
  rcases h.2 with ⟨_, hz⟩ | ⟨g, cap, cur, rfl, _⟩
  · omega
  · have r := run_convert_bytes_back (P := Tryd.prog) w 35 9 5 ⟨g, 0, none⟩ cap l Tryd.underlying35 Tryd.underlying5 Tryd.underlying9 (fun j hj => h.cells (g := g) rfl j _ (by simp [hj, w8]))
    rw [hl] at r
    exact r
theorem one_int {k : IntKind} (z : Int) : ∀ u ∈ ([.int k z] : List Value), u.oneCell' = true := by
  intro u hu
  rw [List.mem_singleton.1 hu]; rfl
theorem highs_succ (n : Int) : ∀ (m k : Nat), k < m → (highs n m).take (k + 1) = (highs n m).take k ++ [hiB n (m - 1 - k)]
  | 0, k, h => by omega
  | m + 1, 0, _ => by simp [highs]
  | m + 1, k + 1, h => by
    rw [highs, List.take_succ_cons, List.take_succ_cons, highs_succ n m k (by omega), List.cons_append, show m + 1 - 1 - (k + 1) = m - 1 - k by omega]
theorem high_byte (n : Int) (k q : Nat) (hk : k < 8) (hq : q = 8 * (7 - k)) : Value.int .u8 (n % 18446744073709551616 / 2 ^ q % 256) = w8 (hiB n (8 - 1 - k)) := by
  unfold w8
  rw [hiB_nat, show 8 * (8 - 1 - k) = q by omega]
  have : k = 0 ∨ k = 1 ∨ k = 2 ∨ k = 3 ∨ k = 4 ∨ k = 5 ∨ k = 6 ∨ k = 7 := by omega
  congr 1
  subst hq
  rcases this with rfl | rfl | rfl | rfl | rfl | rfl | rfl | rfl <;> simp only [Nat.reduceSub, Nat.reduceMul, Int.reducePow] <;> omega

set_option maxHeartbeats 1000000 in
theorem eight_any (n : Int) (w : World) :
    Calls Tryd.prog 44 #[.int .i64 n] w fun e w' => e = .returned (.string ⟨(highs n 8).toArray⟩) ∧ w.grownBy w' none := by
  obtain ⟨N, hN⟩ : ∃ N : Int, N = n % 18446744073709551616 := ⟨_, rfl⟩
  have hN0 : 0 ≤ N := by omega
  have hN1 : N < 18446744073709551616 := by omega
  have hc1 : IntKind.u64.wrap n = N := by rw [IntKind.wrap_u64]; omega
  have hc2 : n % 18446744073709551616 = N := hN.symm
  have HN := Lib.hid hN
  clear hN
  obtain ⟨i0, hi0, hz0, hz1, hz2⟩ := info_parts byte_inf
  have Hi0 := Lib.hid hi0
  have Hz0 := Lib.hid hz0
  have Hz1 := Lib.hid hz1
  have Hz2 := Lib.hid hz2
  clear hi0 hz0 hz1 hz2
  go_enter Tryd.func44, Tryd.ntmps44
  go_wp2_with fail
  go_loopw [5, 4] (fun i v wr => ∃ k : Nat, k ≤ 8 ∧ i = .int .i64 k ∧ wr.ownsRow w.heap.size 5 1 v k (((highs n 8).take k).map w8) ∧ w.grownBy wr none) (fun i _ _ => 8 - (intOf i).toNat)
  case atStart => exact ⟨0, Nat.zero_le _, rfl, World.ownsRow_nil _ _ _ _, gb_refl _ _⟩
  case round =>
    obtain ⟨k, hk, rfl, hown, hg⟩ := hrel
    by_cases hlt : k < 8
    · have hdec : decide ((k : Int) < 8) = true := decide_eq_true (by omega)
      obtain ⟨m, Hm⟩ : ∃ m : Nat, Hid (m = 8 * k) := ⟨_, rfl⟩
      have hm : 8 * (k : Int) = (m : Int) := by have := Hm.out; omega
      obtain ⟨q, Hq⟩ : ∃ q : Nat, Hid (q + m = 56) := ⟨56 - m, by show _ = _; have := Hm.out; omega⟩
      have hq : 56 - (m : Int) = (q : Int) := by have := Hq.out; omega
      have hq2 : (q : Int) ≤ 56 := by omega
      go_wp2_with (at_builtin; refine wpList_append_own _ rfl (.tmp 12) (.tmp 20) 35 rfl w.heap.size 5 i0 (.int .u8 0) 1 1 Tryd.underlying35 Hi0.out Hz0.out Hz1.out Hz2.out rfl (by decide) _ k _ rfl (hown.alloc _) ⟨wr.heap.size, 0, none⟩ 1 1 [.int .u8 (N / 2 ^ q % 256)] rfl rfl (cell_new _) (one_int _) (by simp only [maxLen]; omega) (by omega) (by have := hg.size; simp; omega) ?_; intro v' w' own' grow' _)
      go_roundw
      case rel =>
        refine ⟨k + 1, by omega, by go_num, ?_, gb_step (gb_alloc hg _) grow' (fun i e => .inr (hown.lt i e).1)⟩
        rw [highs_succ n 8 k hlt, List.map_append]
        have e : Value.int .u8 (N / 2 ^ q % 256) = w8 (hiB n (8 - 1 - k)) := by rw [HN.out]; exact high_byte n k q hlt (by have := Hq.out; have := Hm.out; omega)
        rw [e] at own'
        exact own'
      case measure => simp [intOf]; omega
    · have hk8 : k = 8 := by omega
      subst hk8
      have hdec : decide (((8 : Nat) : Int) < 8) = false := by decide
      rw [List.take_of_length_le (by rw [highs_len]; exact Nat.le_refl _)] at hown
      have hconv := own_string hown (by decide)
      clear hlt hk hown
      go_wp2_with fail
      go_ret
      exact ⟨rfl, hg⟩
theorem highs_drop (n : Int) : (highs n 8).drop 4 = highs n 4 := rfl
theorem four_part (n : Int) : (⟨(highs n 8).toArray⟩ : ByteArray).extract 4 8 = ⟨(highs n 4).toArray⟩ := by
  apply ByteArray.ext
  apply Array.ext'
  simp [highs]
set_option maxHeartbeats 1000000 in
theorem four_any (n : Int) (w : World) :
    Calls Tryd.prog 45 #[.int .i64 n] w fun e w' => e = .returned (.string ⟨(highs n 4).toArray⟩) ∧ w.grownBy w' none := by
  have He := Lib.hid (fun w => eight_any n w)
  obtain ⟨s, hs⟩ : ∃ s : ByteArray, s = ⟨(highs n 8).toArray⟩ := ⟨_, rfl⟩
  have hz : s.size = 8 := by rw [hs]; simp [ByteArray.size, highs]
  have Hx : Hid (s.extract 4 8 = ⟨(highs n 4).toArray⟩) := by show _ = _; rw [hs]; exact four_part n
  rw [← hs] at He
  rw [← Hx.out]
  clear hs
  go_enter Tryd.func45, Tryd.ntmps45
  go_wp2_with fail
  refine (He.out _).mono ?_
  rintro e w2 ⟨rfl, g2⟩
  go_wp2_with fail
  go_ret
  exact ⟨rfl, g2⟩
end Go.Proofs.YtbammjhafgbfkaaDoor
