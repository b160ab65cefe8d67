/- box.xored: a text by the stream of the key's first half. -/
import Derived.Test.YthdealjnhgkoiaaDoorCc
import Derived.Test.YthdealjnhgkoiaaDoorBxReason
namespace Go.Proofs.YthdealjnhgkoiaaDoor.Bx
open Go.RowKit Wd Mm

def xorB (key nonce s : ByteArray) : ByteArray := ⟨(Cc.xorA (key.extract 0 32) nonce 1 s.data.toList).toArray⟩

theorem text_holds (s : ByteArray) (w W : World) (cap : Nat) (t : TypeId) (m : Nat × Nat) (hW : W.heap[w.heap.size]? = some (.cells (bytesRow s cap) t m)) : Cc.Holds W (some ⟨w.heap.size, 0, none⟩) s.size s.data.toList := by
  refine ⟨Cc.len_data s, fun _ => ⟨w.heap.size, 0, rfl, (Array.getElem?_eq_some_iff.1 hW).1, fun i hi => ?_⟩⟩
  rw [Nat.zero_add]
  simp only [World.cell?, hW]
  exact Cc.bytesRow_get s cap i hi

set_option maxHeartbeats 1000000 in
theorem xored_any (key nonce s : ByteArray) (w : World) (hk : key.size = 64) (hs : s.size ≤ 9223372036854775807) :
    Calls Tryd.prog 20 #[.string key, .string nonce, .string s] w fun e w' => e = .returned (.string (xorB key nonce s)) ∧ w.grownBy w' none := by
  have k1 : (32 : Int) ≤ (key.size : Int) := by omega
  have k2 : 32 ≤ key.size := by omega
  have hcv := fun W => run_bytes_of_string (P := Tryd.prog) W 9 30 5 s Tryd.underlying9 Tryd.underlying30 Tryd.underlying5
  clear hk
  go_enter Tryd.func20, Tryd.ntmps20
  go_wp2_with fail
  have r0 : RowF (w.alloc (.cells (bytesRow s (grownCap w s.size 0 5)) 5 ((bytesRow s (grownCap w s.size 0 5)).size, (bytesRow s (grownCap w s.size 0 5)).size + 1))).drew w.heap.size 5 (bytesRow s (grownCap w s.size 0 5)) :=
    ⟨_, Nat.le_refl _, heap_alloc_new _ _⟩
  obtain ⟨m, _, hm⟩ := r0
  have hh := text_holds s w _ _ _ _ hm
  have g0 : w.grownBy (w.alloc (.cells (bytesRow s (grownCap w s.size 0 5)) 5 ((bytesRow s (grownCap w s.size 0 5)).size, (bytesRow s (grownCap w s.size 0 5)).size + 1))).drew none := gb_drew (gb_alloc (gb_refl _ _) _)
  clear hm
  refine (Cc.xor_any _ _ _ _ _ _ _ _ hs hh).mono ?_
  rintro e w1 ⟨v, rfl, g1, ht⟩
  have hst := Cc.told_string ht w1 (gb_refl _ _)
  have g2 := gb_none g0 g1
  clear hh g0 g1 ht
  go_wp2_with fail
  go_ret
  exact ⟨rfl, g2⟩
end Go.Proofs.YthdealjnhgkoiaaDoor.Bx
