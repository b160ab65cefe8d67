/- The law's Log. Written by gen_wc6.py. -/
import Derived.Test.YtpcjbjpofcdjeaaGreatDoorWcRefMq
set_option linter.unusedVariables false
set_option maxHeartbeats 16000000
set_option maxRecDepth 100000
namespace Go.Proofs.YtpcjbjpofcdjeaaGreatDoor.Wc
open Go Go.RowKit Mm Td Vw Dt
open Mb Ro Hh We
attribute [local go_sem] Td.upon_value Td.upon_skip Td.upon_enter Td.upon_row Td.look_tmp Td.look_const Td.look_func Td.look_global
theorem refMake_any (s m : ByteArray) (A : Option Addr) (n c : Nat) (l : List Rc) (kind dev : Int) (w : World) (hl : LogL w A n l) (hn : n ≤ 1000000) (hc : n ≤ c) (hb : ∀ r ∈ l, r.wraps.length ≤ 1099511627776) (hs : s.size ≤ 1048576) (hm : m.size ≤ 1048576) :
  Calls Tryz.prog 13 #[.string s, .string m, .slice A n c, .int .i64 kind, .int .i64 dev] w (RMadeIs (madeR s m l kind dev) (deedE l kind dev) w) := by
 by_cases hk : deedE l kind dev = 0
 ·have e : madeR s m l kind dev = nextR s m l kind dev := if_pos hk
  rw [e, hk]
  exact refMake_yes s m A n c l kind dev w hl hn hc hb hs hm hk
 ·have e : madeR s m l kind dev = zeroR := if_neg hk
  rw [e]
  exact refMake_no s m A n c l kind dev w hl hn hc hb hk
theorem may_small {r : Rc} (h : MayR r) : r.wraps.length ≤ 8 ∧ ∀ x ∈ r.wraps, x.box.size ≤ 200 := ⟨rise_len h.2.2 h.2.1, fun x hx => (h.2.1 x hx).2.2⟩
def U8N (w : World) (a : Option Addr) (n : Nat) (ns : List Nat) : Prop := ns.length = n ∧ (0 < n → ∃ g o, a = some ⟨g, o, none⟩ ∧ g < w.heap.size ∧ ∀ (i x : Nat), ns[i]? = some x → x ≤ 255 ∧ w.cell? ⟨g, o + i, none⟩ = some (.int .u8 (x : Int)))
theorem U8N.keep {w w' : World} {a : Option Addr} {n : Nat} {ns : List Nat} (h : U8N w a n ns) (k : Gn w w') : U8N w' a n ns := ⟨h.1, fun h0 => by
 obtain ⟨g, o, e, hg, hc⟩ := h.2 h0
 exact ⟨g, o, e, Nat.lt_of_lt_of_le hg k.size, fun i x hx => ⟨(hc i x hx).1, (World.cell?_of_block (a := ⟨g, o + i, none⟩) (k.block g hg (by simp))).trans (hc i x hx).2⟩⟩⟩
end Go.Proofs.YtpcjbjpofcdjeaaGreatDoor.Wc
