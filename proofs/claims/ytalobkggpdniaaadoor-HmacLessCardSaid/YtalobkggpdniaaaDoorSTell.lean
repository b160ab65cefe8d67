/- sha.told: the words' bytes. -/
import Derived.Test.YtalobkggpdniaaaDoorSState
import Derived.Deep.MidRow
namespace Go.Proofs.YtalobkggpdniaaaDoor
open Go.RowKit Wd Mm

theorem put_more (cs : Array Value) (F f : Nat → Value) (a m : Nat) (h : ∀ i, i < m → f i = F (a + i)) : put (put cs 0 F a) a f m = put cs 0 F (a + m) := by
  induction m with
  | zero => rfl
  | succ m ih =>
    rw [put, ih (fun i hi => h i (by omega)), h m (by omega), ← Nat.add_assoc, put, Nat.zero_add]

def tF (l : List UInt32) (i : Nat) : Value := w8 (tellF l i)
theorem tell_cells {w : World} {g : Nat} {t : TypeId} {Z : Array Value} (l : List UInt32) (hZ : Z.size = 32) (h : Row w g t (put Z 0 (tF l) 32)) :
    ∀ j (hj : j < (tellB l).length), w.cell? ((⟨g, 0, none⟩ : Addr).add j) = some (.int .u8 ((tellB l)[j].toNat : Int)) := by
  intro j hj
  have hadd : (⟨g, 0, none⟩ : Addr).add j = ⟨g, j, none⟩ := by unfold Addr.add; split <;> simp_all
  have hj' : j < 32 := by rw [tellB_len] at hj; exact hj
  rw [hadd, h.get, put_get, if_pos ⟨Nat.zero_le _, by omega, by omega⟩]
  simp [tF, tellB, w8]

set_option maxHeartbeats 4000000 in
set_option maxRecDepth 100000 in
theorem told_any (g : Nat) (l : List UInt32) (B : List UInt8) (h t : Nat) (w : World) (hl : l.length = 8) (hr : Row w g 47 (stC l B h t)) :
    Calls Tryd.prog 25 #[.pointer (some ⟨g, 0, none⟩)] w
      fun e w' => e = .returned (.string ⟨(tellB l).toArray⟩) ∧ w.grownBy w' none := by
  have hlt := hr.lt
  obtain ⟨x0, x1, x2, x3, x4, x5, x6, x7, rfl⟩ : ∃ x0 x1 x2 x3 x4 x5 x6 x7, l = [x0, x1, x2, x3, x4, x5, x6, x7] := by
    match l, hl with
    | [x0, x1, x2, x3, x4, x5, x6, x7], _ => exact ⟨x0, x1, x2, x3, x4, x5, x6, x7, rfl⟩
  have c0 : ∀ o, (w.alloc o).cell? ⟨g, 0, none⟩ = some (.int .u32 (x0.toNat : Int)) := fun o => (hr.alloc o).at_ rfl
  have c1 : ∀ o, (w.alloc o).cell? ⟨g, 1, none⟩ = some (.int .u32 (x1.toNat : Int)) := fun o => (hr.alloc o).at_ rfl
  have c2 : ∀ o, (w.alloc o).cell? ⟨g, 2, none⟩ = some (.int .u32 (x2.toNat : Int)) := fun o => (hr.alloc o).at_ rfl
  have c3 : ∀ o, (w.alloc o).cell? ⟨g, 3, none⟩ = some (.int .u32 (x3.toNat : Int)) := fun o => (hr.alloc o).at_ rfl
  have c4 : ∀ o, (w.alloc o).cell? ⟨g, 4, none⟩ = some (.int .u32 (x4.toNat : Int)) := fun o => (hr.alloc o).at_ rfl
  have c5 : ∀ o, (w.alloc o).cell? ⟨g, 5, none⟩ = some (.int .u32 (x5.toNat : Int)) := fun o => (hr.alloc o).at_ rfl
  have c6 : ∀ o, (w.alloc o).cell? ⟨g, 6, none⟩ = some (.int .u32 (x6.toNat : Int)) := fun o => (hr.alloc o).at_ rfl
  have c7 : ∀ o, (w.alloc o).cell? ⟨g, 7, none⟩ = some (.int .u32 (x7.toNat : Int)) := fun o => (hr.alloc o).at_ rfl
  have Hix := Lib.hid (fun (j : Nat) (hj : j < 8) (W : World) => idx8 x0 x1 x2 x3 x4 x5 x6 x7 j hj W)
  clear hr
  generalize hL : ([x0, x1, x2, x3, x4, x5, x6, x7] : List UInt32) = l at *
  clear hL
  go_enter Tryd.func25, Tryd.ntmps25
  go_wp2
  clear c0 c1 c2 c3 c4 c5 c6 c7
  go_loopw [10] (fun i wr => ∃ k : Nat, k ≤ 8 ∧ i = .int .i64 k ∧ (∃ Z, Row wr w.heap.size 66 (put Z 0 (tF l) (4 * k)) ∧ Hid (Z.size = 32)) ∧ w.grownBy wr none) (fun i _ => 8 - (intOf i).toNat)
  case atStart => exact ⟨0, Nat.zero_le _, rfl, ⟨_, heap_alloc_new _ _, rfl⟩, gb_alloc (gb_refl _ _) _⟩
  case round =>
    obtain ⟨k, hk, rfl, ⟨Z, hr, HZ⟩, hgr⟩ := hrel
    by_cases hlt : k < 8
    · have hdec : decide ((k : Int) < 8) = true := by simp; omega
      have bk : (k : Int) < 8 := by omega
      have hi := Hix.out k hlt
      obtain ⟨x, hx⟩ : ∃ y, l.getD k 0 = y := ⟨_, rfl⟩
      rw [hx] at hi
      have Hx := Lib.hid hx
      obtain ⟨m, Hm⟩ : ∃ m : Nat, Hid (m = 4 * k) := ⟨_, rfl⟩
      have hm : 4 * (k : Int) = (m : Int) := by have := Hm.out; omega
      have hm28 : m ≤ 28 := by have := Hm.out; omega
      have hA : Tryd.prog.arrayLen 66 = 32 := by kernel_rfl
      have h32 : (m : Int) + 4 ≤ 32 := by omega
      have hle : (m : Int) ≤ (m : Int) + 4 := by omega
      have hx1 := lt32 x
      have hx2 : (x.toNat : Int) < 4294967296 := by omega
      clear hx
      go_wp2_with fail
      rw [← Hm.out] at hr
      refine (putHigh_any w.heap.size m 4 _ x.toNat _ 66 _ (by omega) (by decide) (by rw [put_size, HZ.out]; omega) hr).mono ?_
      rintro e w1 ⟨rfl, r1, g1⟩
      have e1 : put (put Z 0 (tF l) m) m (fun j => w8 (highB x.toNat 4 j)) 4 = put Z 0 (tF l) (m + 4) := by
        refine put_more _ _ _ _ _ fun i hi => ?_
        unfold tF tellF
        rw [show (m + i) / 4 = k by have := Hm.out; omega, show (m + i) % 4 = i by have := Hm.out; omega, Hx.out]
      rw [e1, show m + 4 = 4 * (k + 1) by have := Hm.out; omega] at r1
      clear e1
      go_wp2_with fail
      go_roundw
      case rel => exact ⟨k + 1, by omega, by go_num, ⟨Z, r1, HZ⟩, gb_new hgr g1 (Nat.le_refl _)⟩
      case measure => simp [intOf]; omega
    · have hk8 : k = 8 := by omega
      subst hk8
      rw [show ((8 : Nat) : Int) = 8 from rfl]
      have hconv := run_convert_bytes_back (P := Tryd.prog) wr 26 9 5 ⟨w.heap.size, 0, none⟩ 32 (tellB l) Tryd.underlying26 Tryd.underlying5 Tryd.underlying9 (tell_cells l HZ.out hr)
      rw [tellB_len] at hconv
      have hA : Tryd.prog.arrayLen 66 = 32 := by kernel_rfl
      clear hlt hk hr
      go_wp2
      go_ret
      exact ⟨rfl, hgr⟩
end Go.Proofs.YtalobkggpdniaaaDoor
