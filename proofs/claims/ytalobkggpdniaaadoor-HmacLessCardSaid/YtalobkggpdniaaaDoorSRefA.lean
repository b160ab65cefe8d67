/- The document's Eight and constants. -/
import Derived.Test.YtalobkggpdniaaaDoorSHelp
import Derived.Test.YtalobkggpdniaaaDoorOwnM
import Derived.Great.BuildSlice
namespace Go.Proofs.YtalobkggpdniaaaDoor
open Go.RowKit Wd Mm

theorem byte_inf : (Tryd.prog.info? 5).map (fun i => (i.zero, i.size, i.bytes)) = some (some (.int .u8 0), 1, 1) := by kernel_rfl
theorem word_inf : (Tryd.prog.info? 42).map (fun i => (i.zero, i.size, i.bytes)) = some (some (.int .u32 0), 1, 4) := by kernel_rfl
theorem bytes_one (l : List UInt8) : ∀ u ∈ l.map w8, u.oneCell' = true := by
  intro u hu
  simp only [List.mem_map] at hu
  obtain ⟨x, _, rfl⟩ := hu
  rfl
theorem cell_new {w : World} {t : TypeId} (u : Value) : ∀ j v, ([u] : List Value)[j]? = some v → (w.alloc (.cells #[u] t)).cell? ((⟨w.heap.size, 0, none⟩ : Addr).add j) = some v := fun j v hv => by
  have hj : j = 0 := by
    rcases j with _ | j
    · rfl
    · simp at hv
  subst hj
  have hadd : (⟨w.heap.size, 0, none⟩ : Addr).add 0 = ⟨w.heap.size, 0, none⟩ := by unfold Addr.add; split <;> simp_all
  rw [hadd, ← hv]
  exact cell_of_row _ _ 0 #[u] t (0, 0) (heap_alloc_new _ _)
/-- An owned row of bytes, as a string. -/
theorem own_string {w : World} {base : Nat} {v : Value} {n : Nat} {l : List UInt8} (h : w.ownsRow base 5 1 v n (l.map w8)) (h0 : 0 < n) : (convert 26 9 v).run Tryd.prog w = .ok (.string ⟨l.toArray⟩) w := by
  have hl : l.length = n := by have := h.1; simpa using this
  rcases h.2 with ⟨_, hz⟩ | ⟨g, cap, cur, rfl, _⟩
  · omega
  · have r := run_convert_bytes_back (P := Tryd.prog) w 26 9 5 ⟨g, 0, none⟩ cap l Tryd.underlying26 Tryd.underlying5 Tryd.underlying9 (fun j hj => h.cells (g := g) rfl j _ (by simp [hj, w8]))
    rw [hl] at r
    exact r
theorem beBytes_succ (N m k : Nat) (hk : k < m) : (beBytes N m).take (k + 1) = (beBytes N m).take k ++ [highB N m k] := by
  rw [List.take_succ_eq_append_getElem (by rw [beBytes_len]; exact hk)]
  simp [beBytes]

theorem one_int {k : IntKind} (z : Int) : ∀ u ∈ ([.int k z] : List Value), u.oneCell' = true := by
  intro u hu
  rw [List.mem_singleton.1 hu]; rfl
theorem eight_byte (N k q : Nat) (hk : k < 8) (hq : q = 8 * (7 - k)) : Value.int .u8 ((N : Int) / 2 ^ q % 256) = w8 (highB N 8 k) := by
  have h1 : (2 ^ q : Nat) = 256 ^ (8 - 1 - k) := by rw [hq, Nat.pow_mul, show 8 - 1 - k = 7 - k by omega]
  have h2 : (2 : Int) ^ q = ((256 ^ (8 - 1 - k) : Nat) : Int) := by rw [← h1, Int.natCast_pow]; rfl
  unfold w8 highB
  rw [UInt8.toNat_ofNat', h2]
  generalize 256 ^ (8 - 1 - k) = d
  congr 1

set_option maxHeartbeats 1000000 in
theorem eight_any (N : Nat) (w : World) (hN : N ≤ 9223372036854775807) :
    Calls Tryd.prog 26 #[.int .i64 (N : Int)] w fun e w' => e = .returned (.string ⟨(beBytes N 8).toArray⟩) ∧ w.grownBy w' none := by
  have hc1 : IntKind.u64.wrap (N : Int) = (N : Int) := by rw [IntKind.wrap_u64]; omega
  have hc2 : (N : Int) % 18446744073709551616 = (N : Int) := by omega
  obtain ⟨i0, hi0, hz0, hz1, hz2⟩ := info_parts byte_inf
  have Hi0 := Lib.hid hi0
  have Hz0 := Lib.hid hz0
  have Hz1 := Lib.hid hz1
  have Hz2 := Lib.hid hz2
  clear hi0 hz0 hz1 hz2
  go_enter Tryd.func26, Tryd.ntmps26
  go_wp2_with fail
  go_loopw [5, 4] (fun i v wr => ∃ k : Nat, k ≤ 8 ∧ i = .int .i64 k ∧ wr.ownsRow w.heap.size 5 1 v k (((beBytes N 8).take k).map w8) ∧ w.grownBy wr none) (fun i _ _ => 8 - (intOf i).toNat)
  case atStart => exact ⟨0, Nat.zero_le _, rfl, World.ownsRow_nil _ _ _ _, gb_refl _ _⟩
  case round =>
    obtain ⟨k, hk, rfl, hown, hg⟩ := hrel
    by_cases hlt : k < 8
    · have hdec : decide ((k : Int) < 8) = true := decide_eq_true (by omega)
      obtain ⟨m, Hm⟩ : ∃ m : Nat, Hid (m = 8 * k) := ⟨_, rfl⟩
      have hm : 8 * (k : Int) = (m : Int) := by have := Hm.out; omega
      obtain ⟨q, Hq⟩ : ∃ q : Nat, Hid (q + m = 56) := ⟨56 - m, by show _ = _; have := Hm.out; omega⟩
      have hq : 56 - (m : Int) = (q : Int) := by have := Hq.out; omega
      have hq2 : (q : Int) ≤ 56 := by omega
      go_wp2_with (at_builtin; refine wpList_append_own _ rfl (.tmp 12) (.tmp 20) 26 rfl w.heap.size 5 i0 (.int .u8 0) 1 1 Tryd.underlying26 Hi0.out Hz0.out Hz1.out Hz2.out rfl (by decide) _ k _ rfl (hown.alloc _) ⟨wr.heap.size, 0, none⟩ 1 1 [.int .u8 ((N : Int) / 2 ^ q % 256)] rfl rfl (cell_new _) (one_int _) (by simp only [maxLen]; omega) (by omega) (by have := hg.size; simp; omega) ?_; intro v' w' own' grow' _)
      go_roundw
      case rel =>
        refine ⟨k + 1, by omega, by go_num, ?_, gb_step (gb_alloc hg _) grow' (fun i e => .inr (hown.lt i e).1)⟩
        rw [beBytes_succ N 8 k hlt, List.map_append]
        have e : Value.int .u8 ((N : Int) / 2 ^ q % 256) = w8 (highB N 8 k) := eight_byte N k q hlt (by have := Hq.out; have := Hm.out; omega)
        rw [e] at own'
        exact own'
      case measure => simp [intOf]; omega
    · have hk8 : k = 8 := by omega
      subst hk8
      have hdec : decide (((8 : Nat) : Int) < 8) = false := by decide
      rw [List.take_of_length_le (by rw [beBytes_len]; exact Nat.le_refl _)] at hown
      have hconv := own_string hown (by decide)
      clear hlt hk hown
      go_wp2_with fail
      go_ret
      exact ⟨rfl, hg⟩

/-- A string turned into bytes: a slice of the call's own. -/
theorem bytesRow_size (s : ByteArray) (c : Nat) (h : s.size ≤ c) : (bytesRow s c).size = c := by
  simp [bytesRow]; omega
theorem convert_ownsM (w : World) (base : Nat) (s : ByteArray) (hb : base ≤ w.heap.size) (hs : s.size ≤ maxLen) :
    OwnsM (w.drew.alloc (.cells (bytesRow s (grownCap w s.size 0 5)) 5 ((bytesRow s (grownCap w s.size 0 5)).size, (bytesRow s (grownCap w s.size 0 5)).size + 1))) base 5
      (.slice (some ⟨w.heap.size, 0, none⟩) s.size (grownCap w s.size 0 5)) s.size (s.data.toList.map w8) := by
  have hge := grownCap_ge w s.size 0 5
  have hsz := bytesRow_size s _ hge
  refine ⟨by simp, .inr ⟨w.heap.size, _, _, _, rfl, hb, heap_alloc_new w.drew _, .inr (Nat.le_refl _), hge, grownCap_le_maxLen w _ _ _ hs, hsz, ?_⟩⟩
  apply List.ext_getElem?
  intro i
  rw [List.getElem?_take]
  by_cases hi : i < s.size
  · rw [if_pos hi, Array.getElem?_toList, bytesRow_at s _ i hi]
    simp [hi, w8]
  · rw [if_neg hi, List.getElem?_eq_none (by simp; omega)]

def kI : List Int := konst.map fun x => (x.toNat : Int)
theorem kI_cells : (kI.map (Value.int .u32)).toArray = (konst.map w32).toArray := by
  unfold kI
  rw [List.map_map]; rfl
theorem word_size : (Tryd.prog.info? 42).map (·.size) = some 1 := by kernel_rfl
theorem word_zero : ((Tryd.prog.info? 42).bind (·.zero)).isSome = true := by kernel_rfl
set_option maxHeartbeats 1000000 in
set_option maxRecDepth 100000 in
theorem constants_any (w : World) :
    Calls Tryd.prog 27 #[] w fun e w' => ∃ g, e = .returned (.slice (some ⟨g, 0, none⟩) 64 64) ∧ w.heap.size ≤ g ∧ Row w' g 42 (konst.map w32).toArray ∧ w.grownBy w' none := by
  go_enter Tryd.func27, Tryd.ntmps27
  go_wp2_with (refine wpList_buildFlat rfl 51 42 64 _ rfl .u32 kI Tryd.underlying51 word_size word_zero (by decide) (by decide) (by decide) (by kernel_rfl) ?_; rw [kI_cells])
  go_ret
  exact ⟨_, rfl, Nat.le_refl _, Row.new _ _ _, gb_alloc (gb_refl _ _) _⟩
end Go.Proofs.YtalobkggpdniaaaDoor
