/- The document's In, Check. Written by gen_mbrefc.py. -/
import Derived.Test.YtaecfcodldbnhaaMbRefP
set_option linter.unusedVariables false
namespace Go.Proofs.Ytaecfcodldbnhaa.Mb
open Go Go.RowKit Go.Proofs.Ytaecfcodldbnhaa.Mm Go.Proofs.Ytaecfcodldbnhaa.Td Go.Proofs.Ytaecfcodldbnhaa.Vw Go.Proofs.Ytaecfcodldbnhaa.Dt

attribute [local go_sem] Td.upon_value Td.upon_skip Td.upon_enter Td.upon_row Td.look_tmp Td.look_const Td.look_func Td.look_global
theorem take_rec {l : List Rc} {k : Nat} {r : Rc} (h : l[k]? = some r) : l.take (k + 1) = l.take k ++ [r] := by rw [List.take_add_one, h]; rfl
theorem inL_next {l : List Rc} {k : Nat} {r : Rc} (h : l[k]? = some r) (e d : Int) : inL (l.take (k + 1)) e d = goesIn e d (inL (l.take k) e d) r := by rw [take_rec h, inL_snoc]
theorem goes_out {e d : Int} {b : Bool} {r : Rc} (h : ¬ (r.seq ≤ e ∧ r.dev = d ∧ (r.kind = 1 ∨ r.kind = 2))) : goesIn e d b r = b := if_neg h
theorem goes_in {e d : Int} {b q : Bool} {r : Rc} (h : r.seq ≤ e ∧ r.dev = d ∧ (r.kind = 1 ∨ r.kind = 2)) (hq : decide (r.kind = 1) = q) : goesIn e d b r = q := by unfold goesIn; rw [if_pos h, hq]
theorem log_rec {w : World} {g o n : Nat} {l : List Rc} (h : LogL w (some ⟨g, o, none⟩) n l) {i : Nat} {r : Rc} (hr : l[i]? = some r) : g < w.heap.size ∧ RcAt w g (o + i * 6) r := by
  obtain ⟨g', o', e, hg, hc⟩ := log_at h hr
  cases e
  exact ⟨hg, hc⟩
set_option maxHeartbeats 16000000 in
set_option maxRecDepth 100000 in
theorem refIn_any (A : Option Addr) (n c : Nat) (l : List Rc) (e d : Int) (w : World) (hl : LogL w A n l) (hn : n ≤ 1099511627776) :
    Calls Try.prog 10 #[.slice A n c, .int .i64 e, .int .i64 d] w fun x w' => x = .returned (.bool (inB l e d)) ∧ w = w' := by
  have Hl := Lib.hid hl
  have Hn := Lib.hid hn
  clear hl hn
  go_enter Try.func10, Try.ntmps10
  go_wp2_with fail
  go_loopw [7, 8] (fun bv iv wr => ∃ k : Nat, k ≤ n ∧ iv = .int .i64 k ∧ bv = .bool (inL (l.take k) e d) ∧ wr = w) (fun _ iv _ => n - (intOf iv).toNat)
  case atStart => exact ⟨0, Nat.zero_le _, rfl, rfl, rfl⟩
  case round =>
    obtain ⟨k, hk, rfl, rfl, rfl⟩ := hrel
    obtain ⟨q0, hq0⟩ : ∃ q0, inL (l.take k) e d = q0 := ⟨_, rfl⟩
    have Hq : Hid (q0 = inL (l.take k) e d) := hq0.symm
    rw [hq0]
    clear hq0
    by_cases hlt : k < n
    · have d1 : decide (k < n) = true := decide_eq_true hlt
      have d2 : decide ((k : Int) < (n : Int)) = true := decide_eq_true (by omega)
      have bk : (k : Int) < (n : Int) := by omega
      have t1 : IntKind.i64.wrap ((k : Int) + 1) = ((k + 1 : Nat) : Int) := by rw [IntKind.wrap_i64]; have := Hn.out; omega
      obtain ⟨g, o, rfl, hgl, _⟩ := Hl.out.2 (by omega)
      obtain ⟨r, hx⟩ : ∃ r, l[k]? = some r := ⟨_, List.getElem?_eq_getElem (by rw [Hl.out.1]; exact hlt)⟩
      have hat := (log_rec Hl.out hx).2
      obtain ⟨RA, rc, z0, z1, z2, z3, z4, z5, _, _⟩ := hat
      have Hx := Lib.hid hx
      have Hlt := Lib.hid hlt
      clear hx hlt hk hgl
      by_cases h1 : r.seq ≤ e
      · have q1 : decide (r.seq ≤ e) = true := decide_eq_true h1
        by_cases h2 : r.dev = d
        · have h2e : (r.dev == d) = true := eq_yes h2
          by_cases h3 : r.kind = 1
          · have h3e : (r.kind == 1) = true := eq_yes h3
            have HN : Hid (true = inL (l.take (k + 1)) e d) := by show _ = _; rw [inL_next Hx.out]; exact (goes_in ⟨h1, h2, .inl h3⟩ (decide_eq_true h3)).symm
            clear h1 h2 h3
            go_wp2_with fail
            go_roundw
            case rel => exact ⟨k + 1, by have := Hlt.out; omega, rfl, by rw [HN.out], (by first | exact trivial | rfl)⟩
            case measure => simp [intOf]; have := Hlt.out; omega
          · have h3e : (r.kind == 1) = false := eq_no h3
            by_cases h4 : r.kind = 2
            · have h4e : (r.kind == 2) = true := eq_yes h4
              have HN : Hid (false = inL (l.take (k + 1)) e d) := by show _ = _; rw [inL_next Hx.out]; exact (goes_in ⟨h1, h2, .inr h4⟩ (decide_eq_false h3)).symm
              clear h1 h2 h3 h4
              go_wp2_with fail
              go_roundw
              case rel => exact ⟨k + 1, by have := Hlt.out; omega, rfl, by rw [HN.out], (by first | exact trivial | rfl)⟩
              case measure => simp [intOf]; have := Hlt.out; omega
            · have h4e : (r.kind == 2) = false := eq_no h4
              have HN : Hid (q0 = inL (l.take (k + 1)) e d) := by show _ = _; rw [inL_next Hx.out]; exact ((goes_out (fun h => h.2.2.elim h3 h4)).trans Hq.out.symm).symm
              clear h1 h2 h3 h4
              go_wp2_with fail
              go_roundw
              case rel => exact ⟨k + 1, by have := Hlt.out; omega, rfl, by rw [HN.out], (by first | exact trivial | rfl)⟩
              case measure => simp [intOf]; have := Hlt.out; omega
        · have h2e : (r.dev == d) = false := eq_no h2
          have HN : Hid (q0 = inL (l.take (k + 1)) e d) := by show _ = _; rw [inL_next Hx.out]; exact ((goes_out (fun h => h2 h.2.1)).trans Hq.out.symm).symm
          clear h1 h2
          go_wp2_with fail
          go_roundw
          case rel => exact ⟨k + 1, by have := Hlt.out; omega, rfl, by rw [HN.out], (by first | exact trivial | rfl)⟩
          case measure => simp [intOf]; have := Hlt.out; omega
      · have q1 : decide (r.seq ≤ e) = false := decide_eq_false h1
        have HN : Hid (q0 = inL (l.take (k + 1)) e d) := by show _ = _; rw [inL_next Hx.out]; exact ((goes_out (fun h => h1 h.1)).trans Hq.out.symm).symm
        clear h1
        go_wp2_with fail
        go_roundw
        case rel => exact ⟨k + 1, by have := Hlt.out; omega, rfl, by rw [HN.out], (by first | exact trivial | rfl)⟩
        case measure => simp [intOf]; have := Hlt.out; omega
    · have hkn : k = n := by omega
      subst hkn
      have d1 : decide (k < k) = false := by simp
      have d2 : decide ((k : Int) < (k : Int)) = false := by simp
      have Hf : Hid (q0 = inL l e d) := by
        have h := Hq.out
        rwa [List.take_of_length_le (by rw [Hl.out.1]; exact Nat.le_refl _)] at h
      clear hlt hk
      by_cases h1 : 0 ≤ d
      · have q1 : decide (0 ≤ d) = true := decide_eq_true h1
        by_cases h2 : d < 8
        · have q2 : decide (d < 8) = true := decide_eq_true h2
          have HE : Hid (inB l e d = q0) := by show _ = _; unfold inB; rw [← Hf.out, q1, q2]; cases q0 <;> rfl
          clear h1 h2
          cases q0
          · go_wp2_with fail
            go_ret
            exact ⟨by simp [HE.out], rfl⟩
          · go_wp2_with fail
            go_ret
            exact ⟨by simp [HE.out], rfl⟩
        · have q2 : decide (d < 8) = false := decide_eq_false h2
          have HE : Hid (inB l e d = false) := by show _ = _; unfold inB; rw [q1, q2]; cases inL l e d <;> rfl
          clear h1 h2
          cases q0
          · go_wp2_with fail
            go_ret
            exact ⟨by simp [HE.out], rfl⟩
          · go_wp2_with fail
            go_ret
            exact ⟨by simp [HE.out], rfl⟩
      · have q1 : decide (0 ≤ d) = false := decide_eq_false h1
        have HE : Hid (inB l e d = false) := by show _ = _; unfold inB; rw [q1]; cases inL l e d <;> rfl
        clear h1
        cases q0
        · go_wp2_with fail
          go_ret
          exact ⟨by simp [HE.out], rfl⟩
        · go_wp2_with fail
          go_ret
          exact ⟨by simp [HE.out], rfl⟩
theorem cut_log (g o n c k : Nat) (W : World) (hk : k ≤ c) : (Instr.slice 22 (.slice (some ⟨g, o, none⟩) n c) none (some (.int .i64 (k : Int))) none).run Try.prog W = .ok (.slice (some ⟨g, o, none⟩) k c) W := by
  have h1 : (0 : Int) ≤ (k : Int) := by omega
  have h2 : (k : Int) ≤ (c : Int) := by omega
  simp [Instr.slice, run_underlying Try.underlying22, Instr.sliceBounds, run_sliceBound, h1, h2]
  exact fun _ => rfl
/-- What the next record is held against ahead of who is a member. -/
def StepA (l : List Rc) (r : Rc) : Prop := MayR r ∧ r.seq = l.length + 1 ∧ r.prev = lastH l ∧ (l.length = 0 → r.kind = 1 ∧ r.dev = 0)
def StepB (l : List Rc) (r : Rc) : Prop := (r.kind = 1 → inB l l.length r.dev = false) ∧ (r.kind = 2 → inB l l.length r.dev = true ∧ r.dev ≠ 0)
theorem step_ab {l : List Rc} {r : Rc} (h : StepA l r) (k : StepB l r) : StepR l r := ⟨h.1, h.2.1, h.2.2.1, fun e => h.2.2.2 (by rw [e]; rfl), k.1, k.2⟩
theorem step_a {l : List Rc} {r : Rc} (h : StepR l r) : StepA l r := ⟨h.1, h.2.1, h.2.2.1, fun e => h.2.2.2.1 (List.length_eq_zero_iff.1 e)⟩
theorem step_b {l : List Rc} {r : Rc} (h : StepR l r) : StepB l r := ⟨h.2.2.2.2.1, h.2.2.2.2.2⟩
end Go.Proofs.Ytaecfcodldbnhaa.Mb
