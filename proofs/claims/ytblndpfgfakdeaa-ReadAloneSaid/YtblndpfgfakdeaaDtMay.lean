/- The document's MayRuns. -/
import Derived.Test.YtblndpfgfakdeaaDtMem
import Derived.Deep.DeepCutAuto
namespace Go.Proofs.Ytblndpfgfakdeaa.Dt
open Go Go.RowKit Go.Proofs.Ytblndpfgfakdeaa.Mm

theorem bef_trans {a b c : Rn} (hb : Ok b) (h1 : Bef a b) (h2 : Bef b c) : Bef a c := by
  obtain ⟨_, _, _, k4, _⟩ := hb
  rcases h1 with h1 | ⟨h1, h3⟩ <;> rcases h2 with h2 | ⟨h2, h4⟩
  · exact .inl (by omega)
  · exact .inl (by omega)
  · exact .inl (by omega)
  · exact .inr ⟨by omega, by omega⟩
theorem may_one {x : Rn} (h : Ok x) : May [x] := one_may h
theorem may_snoc {l : List Rn} {z x : Rn} (h : May (l ++ [z])) (hx : Ok x) (hb : Bef z x) : May (l ++ [z] ++ [x]) := by
  refine ⟨fun r hr => ?_, ?_⟩
  · rcases List.mem_append.1 hr with hr | hr
    · exact h.1 r hr
    · rw [List.mem_singleton.1 hr]; exact hx
  · rw [List.pairwise_append]
    refine ⟨h.2, List.pairwise_singleton _ _, fun a ha b hb2 => ?_⟩
    rw [List.mem_singleton.1 hb2]
    rcases List.mem_append.1 ha with ha | ha
    · exact bef_trans (h.1 z (by simp)) ((List.pairwise_append.1 h.2).2.2 a ha z (by simp)) hb
    · rw [List.mem_singleton.1 ha]; exact hb
theorem may_next {l : List Rn} {k : Nat} {z x : Rn} (h : May (l.take (k + 1))) (hz : l[k]? = some z) (hx : l[k + 1]? = some x) (ho : Ok x) (hb : Bef z x) : May (l.take (k + 1 + 1)) := by
  rw [take_more hx, take_more hz]
  rw [take_more hz] at h
  exact may_snoc h ho hb
theorem may_not_ok {l : List Rn} {k : Nat} {x : Rn} (hx : l[k]? = some x) (ho : ¬ Ok x) : ¬ May l := fun h => ho (h.1 x (List.mem_of_getElem? hx))
theorem may_not_bef {l : List Rn} {k : Nat} {z x : Rn} (hz : l[k]? = some z) (hx : l[k + 1]? = some x) (hb : ¬ Bef z x) : ¬ May l := fun h => hb (by
  have hk : k + 1 < l.length := (List.getElem?_eq_some_iff.1 hx).1
  have := List.pairwise_iff_getElem.1 h.2 k (k + 1) (by omega) hk (by omega)
  rw [(List.getElem?_eq_some_iff.1 hz).2, (List.getElem?_eq_some_iff.1 hx).2] at this
  exact this)
/-- Whether they may be, as a Boolean. -/
def MayIs (l : List Rn) (w : World) (e : Ending) (w' : World) : Prop := (∃ b, e = .returned (.bool b) ∧ (b = true ↔ May l)) ∧ w.grownBy w' none

set_option maxHeartbeats 8000000 in
set_option maxRecDepth 100000 in
theorem refMay_any (A : Option Addr) (n c : Nat) (l : List Rn) (w : World) (hl : RL w A n l) (hn : n ≤ 1099511627776) :
    Calls Try.prog 54 #[.slice A n c] w (MayIs l w) := by
  have Hl := Lib.hid hl
  clear hl
  go_enter Try.func54, Try.ntmps54
  go_wp2_with fail
  go_loopw [3] (fun i wr => ∃ k : Nat, k ≤ n ∧ i = .int .i64 k ∧ Hid (May (l.take k)) ∧ w.grownBy wr none) (fun i _ => n - (intOf i).toNat)
  case atStart => exact ⟨0, Nat.zero_le _, rfl, may_nil, gb_refl _ _⟩
  case round =>
    obtain ⟨k, hk, rfl, HX, hg⟩ := hrel
    by_cases hlt : k < n
    · have d1 : decide (k < n) = true := decide_eq_true hlt
      have d2 : decide ((k : Int) < (n : Int)) = true := decide_eq_true (by omega)
      have bk : (k : Int) < (n : Int) := by omega
      obtain ⟨g, o, rfl, hgl, hcc⟩ := (Hl.out.keep hg).2 (by omega)
      obtain ⟨x, hx⟩ : ∃ x, l[k]? = some x := ⟨_, List.getElem?_eq_getElem (by rw [Hl.out.1]; exact hlt)⟩
      obtain ⟨h0, h1, h2⟩ := hcc k x hx
      have Hx := Lib.hid hx
      have HCC := Lib.hid hcc
      clear hcc hx
      by_cases a1 : x.d < 0
      · have f1 : decide (x.d < 0) = true := decide_eq_true a1
        have Hno : Hid (¬ May l) := may_not_ok Hx.out (fun ho => by obtain ⟨q1, q2, q3, q4, q5⟩ := ho; omega)
        clear a1
        go_wp2_with fail
        go_ret
        exact ⟨⟨false, rfl, by simp [Hno.out]⟩, gb_alloc hg _⟩
      · have f1 : decide (x.d < 0) = false := decide_eq_false a1
        by_cases a2 : 8 ≤ x.d
        · have f2 : decide (8 ≤ x.d) = true := decide_eq_true a2
          have Hno : Hid (¬ May l) := may_not_ok Hx.out (fun ho => by obtain ⟨q1, q2, q3, q4, q5⟩ := ho; omega)
          clear a1 a2
          go_wp2_with fail
          go_ret
          exact ⟨⟨false, rfl, by simp [Hno.out]⟩, gb_alloc hg _⟩
        · have f2 : decide (8 ≤ x.d) = false := decide_eq_false a2
          by_cases a3 : x.f < 1
          · have f3 : decide (x.f < 1) = true := decide_eq_true a3
            have Hno : Hid (¬ May l) := may_not_ok Hx.out (fun ho => by obtain ⟨q1, q2, q3, q4, q5⟩ := ho; omega)
            clear a1 a2 a3
            go_wp2_with fail
            go_ret
            exact ⟨⟨false, rfl, by simp [Hno.out]⟩, gb_alloc hg _⟩
          · have f3 : decide (x.f < 1) = false := decide_eq_false a3
            by_cases a4 : x.t < x.f
            · have f4 : decide (x.t < x.f) = true := decide_eq_true a4
              have Hno : Hid (¬ May l) := may_not_ok Hx.out (fun ho => by obtain ⟨q1, q2, q3, q4, q5⟩ := ho; omega)
              clear a1 a2 a3 a4
              go_wp2_with fail
              go_ret
              exact ⟨⟨false, rfl, by simp [Hno.out]⟩, gb_alloc hg _⟩
            · have f4 : decide (x.t < x.f) = false := decide_eq_false a4
              by_cases a5 : 4503599627370496 < x.t
              · have f5 : decide (4503599627370496 < x.t) = true := decide_eq_true a5
                have Hno : Hid (¬ May l) := may_not_ok Hx.out (fun ho => by obtain ⟨q1, q2, q3, q4, q5⟩ := ho; omega)
                clear a1 a2 a3 a4 a5
                go_wp2_with fail
                go_ret
                exact ⟨⟨false, rfl, by simp [Hno.out]⟩, gb_alloc hg _⟩
              · have f5 : decide (4503599627370496 < x.t) = false := decide_eq_false a5
                have Ho : Hid (Ok x) := ⟨by omega, by omega, by omega, by omega, by omega⟩
                clear a1 a2 a3 a4 a5
                go_upto_region 7 with fail
                clear f1 f2 f3 f4 f5 d1 d2 h0 h1 h2
                have ga := gb_alloc hg (.cells #[.int .i64 x.d, .int .i64 x.f, .int .i64 x.t] 56)
                have hrow := Row.new wr 56 #[.int .i64 x.d, .int .i64 x.f, .int .i64 x.t]
                have q0 := hrow.at_ (i := 0) rfl
                have q1 := hrow.at_ (i := 1) rfl
                have q2 := hrow.at_ (i := 2) rfl
                have Ga := Lib.hid (gb_alloc (gb_refl wr none) (.cells #[.int .i64 x.d, .int .i64 x.f, .int .i64 x.t] 56))
                clear hrow
                by_cases hk0 : k = 0
                · have e1 : decide ((0 : Int) < (k : Int)) = false := decide_eq_false (by omega)
                  have e2 : decide (0 < k) = false := decide_eq_false (by omega)
                  have Hnext : Hid (May (l.take (k + 1))) := by
                    show May _
                    rw [take_more Hx.out, hk0, List.take_zero, List.nil_append]; exact may_one Ho.out
                  clear hk0
                  go_quiet (fail)
                  go_wp2_with fail
                  go_roundw
                  case rel => exact ⟨k + 1, by omega, by go_num, Hnext, gb_drewN ga _⟩
                  case measure => simp [intOf]; omega
                · obtain ⟨j, rfl⟩ : ∃ j, k = j + 1 := ⟨k - 1, by omega⟩
                  obtain ⟨z, hz⟩ : ∃ z, l[j]? = some z := ⟨_, List.getElem?_eq_getElem (by rw [Hl.out.1]; omega)⟩
                  obtain ⟨p0, p1, p2⟩ := HCC.out j z hz
                  have p0' := (World.cell?_of_block (a := ⟨g, o + j * 3, none⟩) (Ga.out.block g hgl (by simp))).trans p0
                  have p1' := (World.cell?_of_block (a := ⟨g, o + j * 3 + 1, none⟩) (Ga.out.block g hgl (by simp))).trans p1
                  have p2' := (World.cell?_of_block (a := ⟨g, o + j * 3 + 2, none⟩) (Ga.out.block g hgl (by simp))).trans p2
                  have hzo : Ok z := HX.out.1 z (by rw [take_more hz]; simp)
                  have hz1 : 1 ≤ z.t ∧ z.t ≤ 4503599627370496 := by obtain ⟨_, _, k3, k4, k5⟩ := hzo; omega
                  have hw : IntKind.i64.wrap (z.t + 1) = z.t + 1 := by rw [IntKind.wrap_i64]; omega
                  have hw2 : wrap64 (z.t + 1) = z.t + 1 := IntWalk.wrap64_in _ ⟨by omega, by omega⟩
                  have Hz := Lib.hid hz
                  have e1 : decide ((0 : Int) < ((j + 1 : Nat) : Int)) = true := decide_eq_true (by omega)
                  have bj : (j : Int) < (n : Int) := by omega
                  clear hz p0 p1 p2 hk0 hzo hz1
                  by_cases c1 : x.d < z.d
                  · have e3 : decide (x.d < z.d) = true := decide_eq_true c1
                    have Hno : Hid (¬ May l) := may_not_bef Hz.out Hx.out (fun hb => by rcases hb with hb | ⟨hb, _⟩ <;> omega)
                    clear c1
                    go_quiet (fail)
                    go_wp2_with fail
                    go_ret
                    exact ⟨⟨false, rfl, by simp [Hno.out]⟩, gb_drewN ga _⟩
                  · have e3 : decide (x.d < z.d) = false := decide_eq_false c1
                    by_cases c2 : x.d = z.d
                    · have e4 : (x.d == z.d) = true := by rw [c2]; simp
                      by_cases c3 : x.f ≤ z.t + 1
                      · have e5 : decide (x.f ≤ z.t + 1) = true := decide_eq_true c3
                        have Hno : Hid (¬ May l) := may_not_bef Hz.out Hx.out (fun hb => by rcases hb with hb | ⟨_, hb⟩ <;> omega)
                        clear c1 c2 c3
                        go_quiet (fail)
                        go_wp2_with fail
                        go_ret
                        exact ⟨⟨false, rfl, by simp [Hno.out]⟩, gb_drewN ga _⟩
                      · have e5 : decide (x.f ≤ z.t + 1) = false := decide_eq_false c3
                        have Hnext : Hid (May (l.take (j + 1 + 1))) := may_next HX.out Hz.out Hx.out Ho.out (.inr ⟨c2.symm, by omega⟩)
                        clear c1 c2 c3
                        go_quiet (fail)
                        go_wp2_with fail
                        go_roundw
                        case rel => exact ⟨j + 1 + 1, by omega, by go_num, Hnext, gb_drewN ga _⟩
                        case measure => simp [intOf]; omega
                    · have e4 : (x.d == z.d) = false := by rw [beq_eq_false_iff_ne]; exact c2
                      have Hnext : Hid (May (l.take (j + 1 + 1))) := may_next HX.out Hz.out Hx.out Ho.out (.inl (by omega))
                      clear c1 c2
                      go_quiet (fail)
                      go_wp2_with fail
                      go_roundw
                      case rel => exact ⟨j + 1 + 1, by omega, by go_num, Hnext, gb_drewN ga _⟩
                      case measure => simp [intOf]; omega
    · have hkn : k = n := by omega
      subst hkn
      have d1 : decide (k < k) = false := by simp
      have d2 : decide ((k : Int) < (k : Int)) = false := by simp
      have He : Hid (May l) := by
        show May l
        have h := HX.out
        rwa [List.take_of_length_le (by rw [Hl.out.1]; exact Nat.le_refl _)] at h
      go_wp2_with fail
      go_ret
      exact ⟨⟨true, rfl, by simp [He.out]⟩, hg⟩
end Go.Proofs.Ytblndpfgfakdeaa.Dt
