/- buffer.ahead, from: where a number stands, and which deltas are from it on. -/
import Derived.Test.YtbdpckphlagijaaDoorBuMem
import Derived.Test.YtbdpckphlagijaaDoorBuErr
import Derived.IntWalk
import Derived.RegionTactic
set_option linter.unusedVariables false
namespace Go.Proofs.YtbdpckphlagijaaDoor.Bf
open Go Go.RowKit Go.Proofs.YtbdpckphlagijaaDoor.Mm Go.Proofs.YtbdpckphlagijaaDoor.Td Go.Proofs.YtbdpckphlagijaaDoor.Dt Go.Proofs.YtbdpckphlagijaaDoor.Er

/-- Where an error's variable points, and that something lies there. -/
def At (w : World) (g : Nat) (a : Addr) : Prop := w.cell? ⟨g, 0, none⟩ = some (.iface 109 (.pointer (some a))) ∧ ∃ cs t, w.heap[a.block]? = some (.cells cs t (0, 0))
theorem At.keep {w w' : World} {g : Nat} {a : Addr} (h : At w g a) (k : w.grownBy w' none) : At w' g a := by
  obtain ⟨h1, cs, t, h2⟩ := h
  exact ⟨(World.cell?_of_block (k.block _ (block_lt_of_cell h1) (by simp))).trans h1, cs, t, (k.block _ (Array.getElem?_eq_some_iff.1 h2).1 (by simp)).trans h2⟩
/-- The three errors, each with its place. -/
structure Ers (w : World) (a b : Addr) : Prop where
  gone : At w 0 a
  yet : At w 1 b
  ne : a ≠ b
theorem Ers.keep {w w' : World} {a b : Addr} (h : Ers w a b) (k : w.grownBy w' none) : Ers w' a b := ⟨h.gone.keep k, h.yet.keep k, h.ne⟩
theorem Ers.of {w : World} (h : Sn.Two w 0 1) : ∃ a b, Ers w a b := by
  obtain ⟨a, b, c, d, t, u, h1, h2, h3, h4, h5⟩ := h
  exact ⟨a, b, ⟨h1, c, t, h4⟩, ⟨h2, d, u, h5⟩, h3⟩

/-- What ahead tells. -/
def Ahead (first : Int) (n : Nat) (m : Int) (a b : Addr) (k : Int) (v : Value) : Prop :=
  (m < first ∧ k = 0 ∧ ∃ p q, v = refV p q a) ∨ (first + n < m ∧ k = 0 ∧ ∃ p q, v = refV p q b) ∨ (first ≤ m ∧ m ≤ first + n ∧ k = m - first ∧ v = .nilIface)
def AheadIs (first : Int) (n : Nat) (m : Int) (a b : Addr) (w : World) (e : Ending) (w' : World) : Prop := ∃ k v, e = .returned (.tuple #[.int .i64 k, v]) ∧ Ahead first n m a b k v ∧ w.grownBy w' none

set_option maxHeartbeats 4000000 in
set_option maxRecDepth 100000 in
theorem ahead_any (first m : Int) (A : Option Addr) (n c : Nat) (a b : Addr) (w : World) (hE : Ers w a b) (h0 : 0 ≤ first) (h1 : first ≤ 4503599627370496) (hm : m ≤ 4503599629370496) (hn : n ≤ 1000000) :
    Calls Tryd.prog 19 #[.agg #[.int .i64 first, .slice A n c], .int .i64 m] w (AheadIs first n m a b w) := by
  by_cases hlt : m < first
  · have d1 : decide (m < first) = true := decide_eq_true hlt
    have k0 := (hE.gone.keep (gb_alloc (gb_refl w none) (.cells #[.int .i64 first, .slice A n c] 32))).1
    have HX : Hid (∀ p q, Ahead first n m a b 0 (refV p q a)) := fun p q => .inl ⟨hlt, rfl, p, q, rfl⟩
    clear hE h0 h1 hm hn hlt
    go_enter Tryd.func19, Tryd.ntmps19
    go_wp2_with fail
    go_region
    go_wp2
    refine bodyPost_ret (v := .tuple #[.int .i64 0, refV _ _ _]) (by simp [results, Tryd.results19, go_sem]; rfl) rfl ?_
    exact ⟨_, _, rfl, HX.out _ _, gb_drew (gb_alloc (gb_refl _ _) _)⟩
  · have d1 : decide (m < first) = false := decide_eq_false hlt
    obtain ⟨far, hfar⟩ : ∃ far : Nat, m - first = (far : Int) := ⟨(m - first).toNat, by omega⟩
    have t1 : IntKind.u64.wrap m = m := by rw [IntKind.wrap_u64]; omega
    have t2 : IntKind.u64.wrap first = first := by rw [IntKind.wrap_u64]; omega
    have t3 : IntKind.u64.wrap (m - first) = (far : Int) := by rw [IntKind.wrap_u64]; omega
    have t4 : IntKind.u64.wrap (n : Int) = (n : Int) := by rw [IntKind.wrap_u64]; omega
    have t5 : IntKind.i64.wrap (far : Int) = (far : Int) := by rw [IntKind.wrap_i64]; omega
    by_cases hgt : n < far
    · have d2 : decide (n < far) = true := decide_eq_true hgt
      have d3 : decide ((n : Int) < (far : Int)) = true := decide_eq_true (by omega)
      have k1 := (hE.yet.keep (gb_alloc (gb_refl w none) (.cells #[.int .i64 first, .slice A n c] 32))).1
      have HX : Hid (∀ p q, Ahead first n m a b 0 (refV p q b)) := fun p q => .inr (.inl ⟨by omega, rfl, p, q, rfl⟩)
      clear hE h0 h1 hm hn hlt hgt hfar
      go_enter Tryd.func19, Tryd.ntmps19
      go_wp2_with fail
      go_region
      go_wp2
      refine bodyPost_ret (v := .tuple #[.int .i64 0, refV _ _ _]) (by simp [results, Tryd.results19, go_sem]; rfl) rfl ?_
      exact ⟨_, _, rfl, HX.out _ _, gb_drew (gb_alloc (gb_refl _ _) _)⟩
    · have d2 : decide (n < far) = false := decide_eq_false hgt
      have d3 : decide ((n : Int) < (far : Int)) = false := decide_eq_false (by omega)
      have HX : Hid (Ahead first n m a b (far : Int) .nilIface) := .inr (.inr ⟨by omega, by omega, by omega, rfl⟩)
      clear hE h0 h1 hm hn hlt hgt hfar
      go_enter Tryd.func19, Tryd.ntmps19
      go_wp2_with fail
      go_ret2
      exact ⟨_, _, rfl, HX.out, gb_alloc (gb_refl _ _) _⟩
end Go.Proofs.YtbdpckphlagijaaDoor.Bf
