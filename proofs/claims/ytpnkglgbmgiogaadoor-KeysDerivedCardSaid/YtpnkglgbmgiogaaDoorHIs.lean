/- hmac's errors within: what they are, what errors.Is says of them. -/
import Derived.Test.YtpnkglgbmgiogaaDoorHExpand
import Derived.LaidEql
import Derived.Stop.Asserts
import Derived.RowKitTokens
namespace Go.Proofs.YtpnkglgbmgiogaaDoor.Hh
open Go.RowKit Wd Mm

/-- What the two variables hold: two pointers, not one. -/
def Errs (w : World) : Prop := ∃ (a0 a1 : Addr) (c0 c1 : Array Value) (t0 t1 : TypeId),
  w.cell? ⟨0, 0, none⟩ = some (.iface 110 (.pointer (some a0))) ∧ w.cell? ⟨1, 0, none⟩ = some (.iface 110 (.pointer (some a1))) ∧ a0 ≠ a1 ∧
  w.heap[a0.block]? = some (.cells c0 t0 (0, 0)) ∧ w.heap[a1.block]? = some (.cells c1 t1 (0, 0))
theorem Errs.keep {w w' : World} (h : Errs w) (hg : w.grownBy w' none) : Errs w' := by
  obtain ⟨a0, a1, c0, c1, t0, t1, h0, h1, hne, hb0, hb1⟩ := h
  exact ⟨a0, a1, c0, c1, t0, t1, (World.cell?_of_block (hg.block _ (block_lt_of_cell h0) (by simp))).trans h0, (World.cell?_of_block (hg.block _ (block_lt_of_cell h1) (by simp))).trans h1, hne, (hg.block _ (Array.getElem?_eq_some_iff.1 hb0).1 (by simp)).trans hb0, (hg.block _ (Array.getElem?_eq_some_iff.1 hb1).1 (by simp)).trans hb1⟩

set_option maxHeartbeats 1000000 in
theorem check_ok (n : Nat) (w : World) (hn : n ≤ 8160) : Calls Tryd.prog 28 #[.int .i64 (n : Int)] w fun e w' => e = .returned .nilIface ∧ w = w' := by
  have t1 : decide ((n : Int) < 0) = false := decide_eq_false (by omega)
  have t2 : decide ((8160 : Int) < (n : Int)) = false := decide_eq_false (by omega)
  go_enter Tryd.func28, Tryd.ntmps28
  go_wp2_with fail
  go_ret
  exact ⟨rfl, rfl⟩
set_option maxHeartbeats 1000000 in
theorem is_nil (b : Addr) (w : World) : Calls Tryd.prog 29 #[.nilIface, .iface 110 (.pointer (some b))] w fun e w' => e = .returned (.bool false) ∧ w = w' := by
  have hn := run_eql_iface_nil_left (P := Tryd.prog) w 110 (.pointer (some b)) Tryd.underlying42
  go_enter Tryd.func29, Tryd.ntmps29
  go_wp2_with fail
  go_ret
  exact ⟨rfl, rfl⟩

set_option maxHeartbeats 4000000 in
theorem derive_any (salt key info : ByteArray) (n : Nat) (w : World) (hn : n ≤ 8160) (h1 : salt.size ≤ 1048576) (h2 : key.size ≤ 1048576) (h3 : info.size ≤ 1048576) (hT : Tabs w) (hE : Errs w) :
    Calls Tryd.prog 23 #[.string salt, .string key, .string info, .int .i64 (n : Int)] w fun e w' => e = .returned (.string (deriveB salt key info n)) ∧ w.grownBy w' none := by
  obtain ⟨a0, a1, c0, c1, t0, t1, k0, k1, _, _, _⟩ := hE
  obtain ⟨p, Hp⟩ : ∃ p : ByteArray, Hid (p = macB salt key) := ⟨_, rfl⟩
  have hp : p.size ≤ 32 := by rw [Hp.out, macB_size]; exact Nat.le_refl _
  have hT1 := hT.keep (gb_alloc (gb_refl w none) (.cells #[.string key] 9)) (by simp)
  go_enter Tryd.func23, Tryd.ntmps23
  go_wp2_with fail
  refine (check_ok n _ hn).mono ?_
  rintro e w1 ⟨rfl, rfl⟩
  go_wp2_with fail
  refine (is_nil a0 _).mono ?_
  rintro e w1 ⟨rfl, rfl⟩
  go_wp2_with fail
  refine (is_nil a1 _).mono ?_
  rintro e w1 ⟨rfl, rfl⟩
  go_wp2_with fail
  refine (mac_any salt key _ 1 1 [key] _ (by omega) (by exact strs_one _ _) (catB_one _) (by decide) (fun h => by cases h) (fun x hx => by rw [List.mem_singleton.1 hx]; omega) (by exact hT1)).mono ?_
  rintro e w2 ⟨rfl, g2⟩
  rw [← Hp.out]
  have g3 := gb_none (gb_alloc (gb_refl w none) _) g2
  clear g2 hT1 k0 k1
  go_wp2_with fail
  refine (expanded_any p info n _ hp h3 hn (by exact hT.keep g3 (by simp))).mono ?_
  rintro e w3 ⟨rfl, g4⟩
  rw [show (outN p info ((n + 31) / 32)).extract 0 n = deriveB salt key info n by rw [deriveB, Hp.out]]
  go_wp2_with fail
  go_ret
  exact ⟨rfl, gb_none g3 g4⟩
end Go.Proofs.YtpnkglgbmgiogaaDoor.Hh
