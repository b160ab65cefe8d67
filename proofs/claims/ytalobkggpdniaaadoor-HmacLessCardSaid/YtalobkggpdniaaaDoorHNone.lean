/- hmac.Derive at lengths that there are not. -/
import Derived.Test.YtalobkggpdniaaaDoorHWrap
namespace Go.Proofs.YtalobkggpdniaaaDoor
open Go.RowKit Wd Mm

set_option maxHeartbeats 1000000 in
theorem check_below (n : Int) (a : Addr) (w : World) (hn : n < 0) (h : w.cell? ⟨1, 0, none⟩ = some (.iface 101 (.pointer (some a)))) :
    Calls Tryd.prog 33 #[.int .i64 n] w fun e w' => e = .returned (.iface 70 (.agg #[.int .i64 n, .iface 101 (.pointer (some a))])) ∧ w = w' := by
  have t1 : decide (n < 0) = true := decide_eq_true hn
  clear hn
  go_enter Tryd.func33, Tryd.ntmps33
  go_wp2_with fail
  go_ret
  exact ⟨rfl, rfl⟩
set_option maxHeartbeats 1000000 in
theorem check_beyond (n : Int) (a : Addr) (w : World) (hn : 8160 < n) (h : w.cell? ⟨2, 0, none⟩ = some (.iface 101 (.pointer (some a)))) :
    Calls Tryd.prog 33 #[.int .i64 n] w fun e w' => e = .returned (.iface 70 (.agg #[.int .i64 n, .iface 101 (.pointer (some a))])) ∧ w = w' := by
  have t1 : decide (n < 0) = false := decide_eq_false (by omega)
  have t2 : decide (8160 < n) = true := decide_eq_true hn
  clear hn
  go_enter Tryd.func33, Tryd.ntmps33
  go_wp2_with fail
  go_ret
  exact ⟨rfl, rfl⟩

set_option maxHeartbeats 4000000 in
theorem derive_no (salt key info : ByteArray) (n : Int) (w : World) (hn : n < 0 ∨ 8160 < n) (hE : Errs w) :
    Calls Tryd.prog 20 #[.string salt, .string key, .string info, .int .i64 n] w fun e w' => e = .returned (.string ⟨#[]⟩) ∧ w.grownBy w' none := by
  obtain ⟨a0, a1, c0, c1, t0, t1, k0, k1, hne, hb0, hb1⟩ := hE
  by_cases hlt : n < 0
  · have hck := check_below n a0 w hlt k0
    have his := is_len n a0 a0 c0 c0 t0 t0 w hb0 hb0 true (.inl ⟨rfl, rfl⟩)
    have Hck := Lib.hid hck
    have His := Lib.hid his
    clear hck his hb0 hb1 hne hn hlt
    go_enter Tryd.func20, Tryd.ntmps20
    go_wp2_with fail
    refine Hck.out.mono ?_
    rintro e w1 ⟨rfl, rfl⟩
    go_wp2_with fail
    refine His.out.mono ?_
    rintro e w1 ⟨rfl, g1⟩
    go_wp2_with fail
    go_ret
    exact ⟨rfl, g1⟩
  · have hck := check_beyond n a1 w (by omega) k1
    have his := is_len n a1 a0 c1 c0 t1 t0 w hb1 hb0 false (.inr ⟨rfl, fun h => hne h.symm⟩)
    have Hck := Lib.hid hck
    have His := Lib.hid his
    have Hb1 := Lib.hid hb1
    have K1 := Lib.hid k1
    clear hck his hb0 hb1 hne hn hlt
    go_enter Tryd.func20, Tryd.ntmps20
    go_wp2_with fail
    refine Hck.out.mono ?_
    rintro e w1 ⟨rfl, rfl⟩
    go_wp2_with fail
    refine His.out.mono ?_
    rintro e w1 ⟨rfl, g1⟩
    have k1' : w1.cell? ⟨2, 0, none⟩ = some (.iface 101 (.pointer (some a1))) := (World.cell?_of_block (g1.block _ (block_lt_of_cell K1.out) (by simp))).trans K1.out
    have hb1' := (g1.block _ (Array.getElem?_eq_some_iff.1 Hb1.out).1 (by simp)).trans Hb1.out
    have Hb1' := Lib.hid hb1'
    clear hb1' k0 k1
    go_wp2_with fail
    refine (is_len n a1 a1 c1 c1 t1 t1 w1 Hb1'.out Hb1'.out true (.inl ⟨rfl, rfl⟩)).mono ?_
    rintro e w2 ⟨rfl, g2⟩
    go_wp2_with fail
    go_ret
    exact ⟨rfl, gb_none g1 g2⟩
end Go.Proofs.YtalobkggpdniaaaDoor
