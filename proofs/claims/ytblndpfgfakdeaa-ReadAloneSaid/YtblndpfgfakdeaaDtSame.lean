/- The document's SameRuns and Last. -/
import Derived.Test.YtblndpfgfakdeaaDtNeq
namespace Go.Proofs.Ytblndpfgfakdeaa.Dt
open Go Go.RowKit Go.Proofs.Ytblndpfgfakdeaa.Mm

/-- Whether two lists are one, as a Boolean. -/
def SameIs (a b : List Rn) (w : World) (e : Ending) (w' : World) : Prop := (∃ q, e = .returned (.bool q) ∧ (q = true ↔ a = b)) ∧ w.grownBy w' none

set_option maxHeartbeats 8000000 in
set_option maxRecDepth 100000 in
theorem refSame_any (A B : Option Addr) (n c m d : Nat) (a b : List Rn) (w : World) (ha : RL w A n a) (hb : RL w B m b) (hn : n ≤ 1099511627776) (hm : m ≤ 1099511627776) :
    Calls Try.prog 53 #[.slice A n c, .slice B m d] w (SameIs a b w) := by
  have Ha := Lib.hid ha
  have Hb := Lib.hid hb
  clear ha hb
  by_cases hnm : n = m
  · subst hnm
    have e0 : ((n : Int) != (n : Int)) = false := by simp
    go_enter Try.func53, Try.ntmps53
    go_wp2_with fail
    go_loopw [5] (fun i wr => ∃ k : Nat, k ≤ n ∧ i = .int .i64 k ∧ Hid (a.take k = b.take k) ∧ w.grownBy wr none) (fun i _ => n - (intOf i).toNat)
    case atStart => exact ⟨0, Nat.zero_le _, rfl, by show _ = _; rfl, gb_refl _ _⟩
    case round =>
      obtain ⟨k, hk, rfl, HX, hg⟩ := hrel
      by_cases hlt : k < n
      · have d1 : decide (k < n) = true := decide_eq_true hlt
        have d2 : decide ((k : Int) < (n : Int)) = true := decide_eq_true (by omega)
        have bk : (k : Int) < (n : Int) := by omega
        obtain ⟨g, o, rfl, hgl, hcc⟩ := (Ha.out.keep hg).2 (by omega)
        obtain ⟨g', o', rfl, hgl', hcc'⟩ := (Hb.out.keep hg).2 (by omega)
        obtain ⟨x, hx⟩ : ∃ x, a[k]? = some x := ⟨_, List.getElem?_eq_getElem (by rw [Ha.out.1]; exact hlt)⟩
        obtain ⟨y, hy⟩ : ∃ y, b[k]? = some y := ⟨_, List.getElem?_eq_getElem (by rw [Hb.out.1]; exact hlt)⟩
        obtain ⟨h0, h1, h2⟩ := hcc k x hx
        obtain ⟨i0, i1, i2⟩ := hcc' k y hy
        have Hx := Lib.hid hx
        have Hy := Lib.hid hy
        clear hcc hcc' hx hy
        have hq := fun (W : World) => runT_neq x y W
        have hG := runT_guard
        have hT := take_more Hx.out
        have hT2 := take_more Hy.out
        by_cases hxy : x = y
        · have he : eqR x y = true := (eqR_iff x y).2 hxy
          have Hnext : Hid (a.take (k + 1) = b.take (k + 1)) := by show _ = _; rw [hT, hT2, HX.out, hxy]
          rw [he] at hq
          clear hT hT2 hxy he
          go_wp2_with fail
          go_quiet (fail)
          go_wp2_with fail
          go_roundw
          case rel => exact ⟨k + 1, by omega, by go_num, Hnext, gb_drewN hg _⟩
          case measure => simp [intOf]; omega
        · have he : eqR x y = false := by
            cases h : eqR x y with
            | false => rfl
            | true => exact absurd ((eqR_iff x y).1 h) hxy
          have Hno : Hid (a ≠ b) := fun h => hxy (by
            have h1 := Hx.out
            rw [h, Hy.out] at h1
            exact (Option.some.inj h1).symm)
          rw [he] at hq
          clear hT hT2 hxy he
          go_wp2_with fail
          go_quiet (fail)
          go_wp2_with fail
          go_ret
          exact ⟨⟨false, rfl, by simp [Hno.out]⟩, gb_drewN hg _⟩
      · have hkn : k = n := by omega
        subst hkn
        have d1 : decide (k < k) = false := by simp
        have d2 : decide ((k : Int) < (k : Int)) = false := by simp
        have He : Hid (a = b) := by
          show a = b
          have h := HX.out
          rwa [List.take_of_length_le (by rw [Ha.out.1]; exact Nat.le_refl _), List.take_of_length_le (by rw [Hb.out.1]; exact Nat.le_refl _)] at h
        go_wp2_with fail
        go_ret
        exact ⟨⟨true, rfl, by simp [He.out]⟩, hg⟩
  · have e0 : ((n : Int) != (m : Int)) = true := by rw [bne_iff_ne]; omega
    have Hno : Hid (a ≠ b) := fun h => hnm (by rw [← Ha.out.1, ← Hb.out.1, h])
    clear hnm
    go_enter Try.func53, Try.ntmps53
    go_wp2_with fail
    go_ret
    exact ⟨⟨false, rfl, by simp [Hno.out]⟩, gb_refl _ _⟩
end Go.Proofs.Ytblndpfgfakdeaa.Dt
