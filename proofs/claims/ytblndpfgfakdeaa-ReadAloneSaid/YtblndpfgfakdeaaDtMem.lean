/- Lists of runs in memory; the document's Has. -/
import Derived.Test.YtblndpfgfakdeaaBase
import Derived.Test.YtblndpfgfakdeaaDtMix
import Derived.WalkSpells
import Derived.WalkLawsBesides
import Derived.BigRegion
import Derived.BigQuiet
import Derived.IntWalk
import Derived.Lib.Hide
import Derived.Outline
import Derived.Deep.QuietTactic
namespace Go.Proofs.Ytblndpfgfakdeaa.Dt
open Go Go.RowKit Go.Proofs.Ytblndpfgfakdeaa.Mm

/-- The slice at A, of n runs, reads as these. -/
def RL (w : World) (A : Option Addr) (n : Nat) (l : List Rn) : Prop :=
  l.length = n ∧ (0 < n → ∃ g o, A = some ⟨g, o, none⟩ ∧ g < w.heap.size ∧ ∀ i x, l[i]? = some x → w.cell? ⟨g, o + i * 3, none⟩ = some (.int .i64 x.d) ∧ w.cell? ⟨g, o + i * 3 + 1, none⟩ = some (.int .i64 x.f) ∧ w.cell? ⟨g, o + i * 3 + 2, none⟩ = some (.int .i64 x.t))
theorem RL.keep {w w' : World} {A : Option Addr} {n : Nat} {l : List Rn} (h : RL w A n l) (hg : w.grownBy w' none) : RL w' A n l := by
  refine ⟨h.1, fun hn => ?_⟩
  obtain ⟨g, o, e, hl, hc⟩ := h.2 hn
  refine ⟨g, o, e, Nat.lt_of_lt_of_le hl hg.size, fun i x hx => ?_⟩
  have hb := hg.block g hl (by simp)
  obtain ⟨h0, h1, h2⟩ := hc i x hx
  exact ⟨(World.cell?_of_block (a := ⟨g, o + i * 3, none⟩) hb).trans h0, (World.cell?_of_block (a := ⟨g, o + i * 3 + 1, none⟩) hb).trans h1, (World.cell?_of_block (a := ⟨g, o + i * 3 + 2, none⟩) hb).trans h2⟩
theorem RL.none (w : World) (A : Option Addr) : RL w A 0 [] := ⟨rfl, fun h => absurd h (by omega)⟩
theorem take_more {l : List Rn} {k : Nat} {x : Rn} (h : l[k]? = some x) : l.take (k + 1) = l.take k ++ [x] := by
  rw [List.take_add_one, h]; rfl
theorem hasB_more {l : List Rn} {k : Nat} {x : Rn} (h : l[k]? = some x) (d m : Int) : hasB (l.take (k + 1)) d m = (hasB (l.take k) d m || decide (In x d m)) := by
  rw [take_more h]; unfold hasB; rw [List.any_append]; simp
theorem hasB_true {l : List Rn} {k : Nat} {x : Rn} (h : l[k]? = some x) {d m : Int} (hi : In x d m) : hasB l d m = true := (hasB_iff l d m).2 ⟨x, List.mem_of_getElem? h, hi⟩

set_option maxHeartbeats 4000000 in
set_option maxRecDepth 100000 in
theorem refHas_any (A : Option Addr) (n c : Nat) (l : List Rn) (d m : Int) (w : World) (hl : RL w A n l) (hn : n ≤ 1099511627776) :
    Calls Try.prog 36 #[.slice A n c, .agg #[.int .i64 d, .int .i64 m]] w fun e w' => e = .returned (.bool (hasB l d m)) ∧ w.grownBy w' none := by
  have Hl := Lib.hid hl
  clear hl
  go_enter Try.func36, Try.ntmps36
  go_wp2_with fail
  go_loopw [5] (fun i wr => ∃ k : Nat, k ≤ n ∧ i = .int .i64 k ∧ Hid (hasB (l.take k) d m = false) ∧ Row wr w.heap.size 35 #[.int .i64 d, .int .i64 m] ∧ w.grownBy wr none) (fun i _ => n - (intOf i).toNat)
  case atStart => exact ⟨0, Nat.zero_le _, rfl, by show _ = _; rfl, Row.new _ _ _, gb_alloc (gb_refl _ _) _⟩
  case round =>
    obtain ⟨k, hk, rfl, HX, hr, hg⟩ := hrel
    by_cases hlt : k < n
    · have d1 : decide (k < n) = true := decide_eq_true hlt
      have d2 : decide ((k : Int) < (n : Int)) = true := decide_eq_true (by omega)
      obtain ⟨g, o, rfl, hgl, hcc⟩ := (Hl.out.keep hg).2 (by omega)
      obtain ⟨x, hx⟩ : ∃ x, l[k]? = some x := ⟨_, List.getElem?_eq_getElem (by rw [Hl.out.1]; exact hlt)⟩
      obtain ⟨h0, h1, h2⟩ := hcc k x hx
      have q0 := hr.at_ (i := 0) rfl
      have q1 := hr.at_ (i := 1) rfl
      have Hx := Lib.hid hx
      have Hr := Lib.hid hr
      clear hcc hx hr
      by_cases e1 : x.d = d
      · have f1 : (x.d == d) = true := by rw [e1]; simp
        by_cases e2 : x.f ≤ m
        · have f2 : decide (x.f ≤ m) = true := decide_eq_true e2
          by_cases e3 : m ≤ x.t
          · have f3 : decide (m ≤ x.t) = true := decide_eq_true e3
            have Hyes : Hid (hasB l d m = true) := hasB_true Hx.out ⟨e1, e2, e3⟩
            clear e1 e2 e3
            go_wp2_with fail
            go_quiet (fail)
            go_wp2_with fail
            go_ret
            exact ⟨by rw [Hyes.out]; rfl, gb_drewN hg _⟩
          · have f3 : decide (m ≤ x.t) = false := decide_eq_false e3
            have Hno : Hid (hasB (l.take (k + 1)) d m = false) := by
              show _ = _
              rw [hasB_more Hx.out, HX.out, decide_eq_false (fun hi => e3 hi.2.2), Bool.or_false]
            clear e1 e2 e3
            go_wp2_with fail
            go_quiet (fail)
            go_wp2_with fail
            go_roundw
            case rel => exact ⟨k + 1, by omega, by go_num, Hno, by exact Hr.out.kept (gb_drewN (gb_refl wr none) _) (by simp), gb_drewN hg _⟩
            case measure => simp [intOf]; omega
        · have f2 : decide (x.f ≤ m) = false := decide_eq_false e2
          have Hno : Hid (hasB (l.take (k + 1)) d m = false) := by
            show _ = _
            rw [hasB_more Hx.out, HX.out, decide_eq_false (fun hi => e2 hi.2.1), Bool.or_false]
          clear e1 e2
          go_wp2_with fail
          go_quiet (fail)
          go_wp2_with fail
          go_roundw
          case rel => exact ⟨k + 1, by omega, by go_num, Hno, by exact Hr.out.kept (gb_drewN (gb_refl wr none) _) (by simp), gb_drewN hg _⟩
          case measure => simp [intOf]; omega
      · have f1 : (x.d == d) = false := by rw [beq_eq_false_iff_ne]; exact e1
        have Hno : Hid (hasB (l.take (k + 1)) d m = false) := by
          show _ = _
          rw [hasB_more Hx.out, HX.out, decide_eq_false (fun hi => e1 hi.1), Bool.or_false]
        clear e1
        go_wp2_with fail
        go_quiet (fail)
        go_wp2_with fail
        go_roundw
        case rel => exact ⟨k + 1, by omega, by go_num, Hno, by exact Hr.out.kept (gb_drewN (gb_refl wr none) _) (by simp), gb_drewN hg _⟩
        case measure => simp [intOf]; omega
    · have hkn : k = n := by omega
      subst hkn
      have d1 : decide (k < k) = false := by simp
      have d2 : decide ((k : Int) < (k : Int)) = false := by simp
      have He : Hid (hasB l d m = false) := by
        show _ = _
        rw [← HX.out, List.take_of_length_le (by rw [Hl.out.1]; exact Nat.le_refl _)]
      clear hr
      go_wp2_with fail
      go_ret
      exact ⟨by rw [He.out]; rfl, hg⟩
end Go.Proofs.Ytblndpfgfakdeaa.Dt
