/- The document's functions with mix's contract paid; answers where they are yes. -/
import Derived.Test.YtblndpfgfakdeaaDtMixC
import Derived.Test.YtblndpfgfakdeaaDtOf
import Derived.Test.YtblndpfgfakdeaaDtSame
import Derived.Test.YtblndpfgfakdeaaDtPMay
namespace Go.Proofs.Ytblndpfgfakdeaa.Dt
open Go Go.RowKit Go.Proofs.Ytblndpfgfakdeaa.Mm

theorem refUnion_any (A B : Option Addr) (n c m d : Nat) (a b : List Rn) (w : World) (ha : RL w A n a) (hb : RL w B m b) (ma : May a) (mb : May b) (hn : n ≤ 100000) (hm : m ≤ 100000) :
    Calls Try.prog 60 #[.slice A n c, .slice B m d] w (Runs (unionR a b) w) := refUnion_of mix_c A B n c m d a b w ha hb ma.1 mb.1 hn hm
theorem refMinus_any (A B : Option Addr) (n c m d : Nat) (a b : List Rn) (w : World) (ha : RL w A n a) (hb : RL w B m b) (ma : May a) (mb : May b) (hn : n ≤ 100000) (hm : m ≤ 100000) :
    Calls Try.prog 26 #[.slice A n c, .slice B m d] w (Runs (minusR a b) w) := refMinus_of mix_c A B n c m d a b w ha hb ma.1 mb.1 hn hm
theorem refOf_any (A : Option Addr) (n c : Nat) (l : List (Int × Int)) (w : World) (hl : DL w A n l) (hn : n ≤ 50000) :
    Calls Try.prog 27 #[.slice A n c] w (Runs (ofR [] l) w) := refOf_of mix_c A n c l w hl hn
theorem same_yes (A B : Option Addr) (n c m d : Nat) (a b : List Rn) (w : World) (ha : RL w A n a) (hb : RL w B m b) (h : a = b) (hn : n ≤ 100000) (hm : m ≤ 100000) :
    Calls Try.prog 53 #[.slice A n c, .slice B m d] w fun e w' => e = .returned (.bool true) ∧ w.grownBy w' none :=
  (refSame_any A B n c m d a b w ha hb (by omega) (by omega)).mono fun _ _ ⟨⟨q, he, hq⟩, hg⟩ => ⟨by rw [he, hq.2 h], hg⟩
theorem pMay_yes (A : Option Addr) (n c : Nat) (l : List Rn) (w : World) (hl : RL w A n l) (h : May l) (hn : n ≤ 100000) :
    Calls Try.prog 49 #[.slice A n c] w fun e w' => e = .returned (.bool true) ∧ w.grownBy w' none :=
  (pMay_any A n c l w hl (by omega)).mono fun _ _ ⟨⟨q, he, hq⟩, hg⟩ => ⟨by rw [he, hq.2 h], hg⟩
theorem refMay_yes (A : Option Addr) (n c : Nat) (l : List Rn) (w : World) (hl : RL w A n l) (h : May l) (hn : n ≤ 100000) :
    Calls Try.prog 54 #[.slice A n c] w fun e w' => e = .returned (.bool true) ∧ w.grownBy w' none :=
  (refMay_any A n c l w hl (by omega)).mono fun _ _ ⟨⟨q, he, hq⟩, hg⟩ => ⟨by rw [he, hq.2 h], hg⟩
theorem runT_eql (x y : Rn) (W : World) : (binOp .eql 56 (.agg #[.int .i64 x.d, .int .i64 x.f, .int .i64 x.t]) (.agg #[.int .i64 y.d, .int .i64 y.f, .int .i64 y.t])).run Try.prog W = .ok (.bool (eqR x y)) W := by
  rw [run_eql_struct, runT_eq]; rfl
theorem dl_two (w : World) (x0 y0 x1 y1 : Int) (t : TypeId) : DL (w.alloc (.cells #[.int .i64 x0, .int .i64 y0, .int .i64 x1, .int .i64 y1] t)) (some ⟨w.heap.size, 0, none⟩) 2 [(x0, y0), (x1, y1)] := by
  have hr := Row.new w t #[.int .i64 x0, .int .i64 y0, .int .i64 x1, .int .i64 y1]
  refine ⟨rfl, fun _ => ⟨w.heap.size, 0, rfl, hr.lt, fun i r h => ?_⟩⟩
  have hi : i = 0 ∨ i = 1 := by have := (List.getElem?_eq_some_iff.1 h).1; simp at this; omega
  rcases hi with rfl | rfl
  · obtain rfl : (x0, y0) = r := by simpa using h
    exact ⟨hr.at_ (i := 0) rfl, hr.at_ (i := 1) rfl⟩
  · obtain rfl : (x1, y1) = r := by simpa using h
    exact ⟨hr.at_ (i := 2) rfl, hr.at_ (i := 3) rfl⟩
end Go.Proofs.Ytblndpfgfakdeaa.Dt
