/- What the laws call: Make, awake, the document's functions with mix's contract paid. -/
import Derived.Test.YtkibojoochlggaaDtPOf
import Derived.Test.YtkibojoochlggaaDtPMin
import Derived.Test.YtkibojoochlggaaDtCov2
import Derived.Test.YtkibojoochlggaaDtList
import Derived.Test.YtkibojoochlggaaDtSame
import Derived.Test.YtkibojoochlggaaDtLast
namespace Go.Proofs.Ytkibojoochlggaa.Dt
open Go Go.RowKit Go.Proofs.Ytkibojoochlggaa.Mm

theorem refUnion_any (A B : Option Addr) (n c m d : Nat) (a b : List Rn) (w : World) (ha : RL w A n a) (hb : RL w B m b) (ma : May a) (mb : May b) (hn : n ≤ 100000) (hm : m ≤ 100000) :
    Calls Try.prog 18 #[.slice A n c, .slice B m d] w (Runs (unionR a b) w) := refUnion_of mix_c A B n c m d a b w ha hb ma.1 mb.1 hn hm
theorem refMinus_any (A B : Option Addr) (n c m d : Nat) (a b : List Rn) (w : World) (ha : RL w A n a) (hb : RL w B m b) (ma : May a) (mb : May b) (hn : n ≤ 100000) (hm : m ≤ 100000) :
    Calls Try.prog 20 #[.slice A n c, .slice B m d] w (Runs (minusR a b) w) := refMinus_of mix_c A B n c m d a b w ha hb ma.1 mb.1 hn hm
theorem refOf_any (A : Option Addr) (n c : Nat) (l : List (Int × Int)) (w : World) (hl : DL w A n l) (hn : n ≤ 50000) :
    Calls Try.prog 14 #[.slice A n c] w (Runs (ofR [] l) w) := refOf_of mix_c A n c l w hl hn
theorem same_yes (A B : Option Addr) (n c m d : Nat) (a b : List Rn) (w : World) (ha : RL w A n a) (hb : RL w B m b) (h : a = b) (hn : n ≤ 100000) (hm : m ≤ 100000) :
    Calls Try.prog 12 #[.slice A n c, .slice B m d] w fun e w' => e = .returned (.bool true) ∧ w.grownBy w' none :=
  (refSame_any A B n c m d a b w ha hb (by omega) (by omega)).mono fun _ _ ⟨⟨q, he, hq⟩, hg⟩ => ⟨by rw [he, hq.2 h], hg⟩
theorem pMay_yes (A : Option Addr) (n c : Nat) (l : List Rn) (w : World) (hl : RL w A n l) (h : May l) (hn : n ≤ 100000) :
    Calls Try.prog 10 #[.slice A n c] w fun e w' => e = .returned (.bool true) ∧ w.grownBy w' none :=
  (pMay_any A n c l w hl (by omega)).mono fun _ _ ⟨⟨q, he, hq⟩, hg⟩ => ⟨by rw [he, hq.2 h], hg⟩
theorem refMay_yes (A : Option Addr) (n c : Nat) (l : List Rn) (w : World) (hl : RL w A n l) (h : May l) (hn : n ≤ 100000) :
    Calls Try.prog 11 #[.slice A n c] w fun e w' => e = .returned (.bool true) ∧ w.grownBy w' none :=
  (refMay_any A n c l w hl (by omega)).mono fun _ _ ⟨⟨q, he, hq⟩, hg⟩ => ⟨by rw [he, hq.2 h], hg⟩
theorem runT_eql (x y : Rn) (W : World) : (binOp .eql 41 (.agg #[.int .i64 x.d, .int .i64 x.f, .int .i64 x.t]) (.agg #[.int .i64 y.d, .int .i64 y.f, .int .i64 y.t])).run Try.prog W = .ok (.bool (eqR x y)) W := by
  rw [run_eql_struct, runT_eq]; rfl
/-- The document's example. -/
theorem of_two : ofR [] [(1, 3), (1, 2)] = [⟨1, 2, 3⟩] := by
  refine (is_of (c := [⟨1, 2, 3⟩]) ⟨fun x hx => ?_, List.pairwise_singleton _ _⟩ fun d n => ?_).symm
  · rw [List.mem_singleton.1 hx]; unfold Ok; decide
  · rw [has_cons]
    constructor
    · rintro (⟨h1, h2, h3⟩ | h)
      · have h1 : (1 : Int) = d := h1; have h2 : (2 : Int) ≤ n := h2; have h3 : n ≤ 3 := h3
        subst h1
        have : n = 2 ∨ n = 3 := by omega
        rcases this with rfl | rfl
        · exact ⟨by simp, by unfold Ok; decide⟩
        · exact ⟨by simp, by unfold Ok; decide⟩
      · exact absurd h (has_nil _ _)
    · rintro ⟨h, _⟩
      left
      simp at h
      rcases h with ⟨rfl, rfl⟩ | ⟨rfl, rfl⟩
      · exact ⟨rfl, by decide, by decide⟩
      · exact ⟨rfl, by decide, by decide⟩
theorem dl_two (w : World) (x0 y0 x1 y1 : Int) (t : TypeId) : DL (w.alloc (.cells #[.int .i64 x0, .int .i64 y0, .int .i64 x1, .int .i64 y1] t)) (some ⟨w.heap.size, 0, none⟩) 2 [(x0, y0), (x1, y1)] := by
  have hr := Row.new w t #[.int .i64 x0, .int .i64 y0, .int .i64 x1, .int .i64 y1]
  refine ⟨rfl, fun _ => ⟨w.heap.size, 0, rfl, hr.lt, fun i r h => ?_⟩⟩
  have hi : i = 0 ∨ i = 1 := by have := (List.getElem?_eq_some_iff.1 h).1; simp at this; omega
  rcases hi with rfl | rfl
  · obtain rfl : (x0, y0) = r := by simpa using h
    exact ⟨hr.at_ (i := 0) rfl, hr.at_ (i := 1) rfl⟩
  · obtain rfl : (x1, y1) = r := by simpa using h
    exact ⟨hr.at_ (i := 2) rfl, hr.at_ (i := 3) rfl⟩
set_option maxHeartbeats 8000000 in
set_option maxRecDepth 100000 in
theorem awake_any (w : World) : Calls Try.prog 9 #[] w fun e w' => e = .returned (.bool true) ∧ w.grownBy w' none := by
  have hof := fun W => fun (h : DL W (some ⟨w.heap.size, 0, none⟩) 2 [(1, 3), (1, 2)]) => pOf_any (some ⟨w.heap.size, 0, none⟩) 2 2 [(1, 3), (1, 2)] W h (by decide)
  rw [of_two] at hof
  have hdl := dl_two w 1 3 1 2 25
  have Hof := Lib.hid (hof _ hdl)
  have he : (binOp .eql 41 (.agg #[.int .i64 1, .int .i64 2, .int .i64 3]) (.agg #[.int .i64 1, .int .i64 2, .int .i64 3])).run Try.prog = fun W => .ok (.bool true) W := funext fun W => runT_eql ⟨1, 2, 3⟩ ⟨1, 2, 3⟩ W
  clear hof hdl
  go_enter Try.func9, Try.ntmps9
  go_upto_region 2 with (go_at_call 13; refine Hof.out.mono ?_; rintro e w1 ⟨A1, c1, rfl, hR, _, g1⟩)
  obtain ⟨g, o, rfl, _, _⟩ := hR.2 (by decide)
  obtain ⟨q0, q1, q2⟩ := rl_at3 hR (i := 0) rfl
  have G1 : Hid (w.grownBy w1 none) := gb_none (gb_alloc (gb_refl _ _) _) g1
  clear hR g1 Hof
  simp only [Nat.zero_mul, Nat.add_zero] at q0 q1 q2
  go_wp2_with fail
  go_ret
  exact ⟨rfl, G1.out⟩
set_option maxHeartbeats 8000000 in
set_option maxRecDepth 100000 in
theorem make_any (A : Option Addr) (n c : Nat) (bs : List Int) (w : World) (hl : NL w A n bs) (hn : n ≤ 50000) :
    Calls Try.prog 24 #[.slice A n c] w (Runs (ofR [] (dotsN bs)) w) := by
  have Hlist := Lib.hid (list_any A n c bs w hl hn)
  have Hlen : Hid ((dotsN bs).length ≤ 50000) := by show _ ≤ _; unfold dotsN; rw [List.length_map, hl.1]; exact hn
  clear hl
  go_enter Try.func24, Try.ntmps24
  go_wp2_with (go_at_call 25; refine Hlist.out.mono ?_; rintro e w1 ⟨A1, c1, rfl, hD, g1⟩)
  have Hof := Lib.hid (refOf_any A1 (dotsN bs).length c1 (dotsN bs) w1 hD Hlen.out)
  have G1 := Lib.hid g1
  generalize (dotsN bs).length = L at *
  clear hD g1
  go_wp2_with (go_at_call 14; refine Hof.out.mono ?_; rintro e w2 ⟨A2, c2, rfl, hR, h0, g2⟩)
  go_ret
  exact ⟨A2, c2, rfl, hR, h0, gb_none G1.out g2⟩
end Go.Proofs.Ytkibojoochlggaa.Dt
