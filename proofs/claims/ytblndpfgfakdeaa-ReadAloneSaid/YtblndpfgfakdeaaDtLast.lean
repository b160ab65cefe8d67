/- The document's Last. -/
import Derived.Test.YtblndpfgfakdeaaDtMem
namespace Go.Proofs.Ytblndpfgfakdeaa.Dt
open Go Go.RowKit Go.Proofs.Ytblndpfgfakdeaa.Mm

/-- The greatest number of a device's dots. -/
def lastR (dev : Int) : List Rn → Int → Int
  | [], m => m
  | r :: l, m => lastR dev l (if r.d = dev then max m r.t else m)
theorem lastR_snoc (dev : Int) (x : Rn) : ∀ (l : List Rn) (m : Int), lastR dev (l ++ [x]) m = if x.d = dev then max (lastR dev l m) x.t else lastR dev l m
  | [], m => rfl
  | r :: l, m => by rw [List.cons_append, lastR, lastR, lastR_snoc dev x l]
theorem lastR_more {l : List Rn} {k : Nat} {x : Rn} (dev : Int) (h : l[k]? = some x) : lastR dev (l.take (k + 1)) 0 = if x.d = dev then max (lastR dev (l.take k) 0) x.t else lastR dev (l.take k) 0 := by
  rw [take_more h, lastR_snoc]

set_option maxHeartbeats 8000000 in
set_option maxRecDepth 100000 in
theorem refLast_any (A : Option Addr) (n c : Nat) (l : List Rn) (dev : Int) (w : World) (hl : RL w A n l) (hn : n ≤ 1099511627776) :
    Calls Try.prog 68 #[.slice A n c, .int .i64 dev] w fun e w' => e = .returned (.int .i64 (lastR dev l 0)) ∧ w.grownBy w' none := by
  have Hl := Lib.hid hl
  clear hl
  go_enter Try.func68, Try.ntmps68
  go_wp2_with fail
  go_loopw [6, 5] (fun i v wr => ∃ (k : Nat) (m : Int), k ≤ n ∧ i = .int .i64 k ∧ v = .int .i64 m ∧ Hid (m = lastR dev (l.take k) 0) ∧ w.grownBy wr none) (fun i _ _ => n - (intOf i).toNat)
  case atStart => exact ⟨0, 0, Nat.zero_le _, rfl, rfl, by show _ = _; rfl, gb_refl _ _⟩
  case round =>
    obtain ⟨k, m, hk, rfl, rfl, HX, hg⟩ := hrel
    by_cases hlt : k < n
    · have d1 : decide (k < n) = true := decide_eq_true hlt
      have d2 : decide ((k : Int) < (n : Int)) = true := decide_eq_true (by omega)
      have bk : (k : Int) < (n : Int) := by omega
      obtain ⟨g, o, rfl, hgl, hcc⟩ := (Hl.out.keep hg).2 (by omega)
      obtain ⟨x, hx⟩ : ∃ x, l[k]? = some x := ⟨_, List.getElem?_eq_getElem (by rw [Hl.out.1]; exact hlt)⟩
      obtain ⟨h0, h1, h2⟩ := hcc k x hx
      have Hm := Lib.hid (lastR_more dev hx)
      clear hcc hx
      by_cases e1 : x.d = dev
      · have f1 : (x.d == dev) = true := by rw [e1]; simp
        have Hmax : Hid (max m x.t = lastR dev (l.take (k + 1)) 0) := by show _ = _; rw [Hm.out, if_pos e1, HX.out]
        clear e1
        go_wp2_with fail
        all_goals
          go_roundw
          case rel => exact ⟨k + 1, _, by omega, by go_num, rfl, by show _ = _; rw [← Hmax.out]; omega, hg⟩
          case measure => simp [intOf]; omega
      · have f1 : (x.d == dev) = false := by rw [beq_eq_false_iff_ne]; exact e1
        have Hm2 : Hid (m = lastR dev (l.take (k + 1)) 0) := by show _ = _; rw [Hm.out, if_neg e1, HX.out]
        clear e1
        go_wp2_with fail
        go_roundw
        case rel => exact ⟨k + 1, m, by omega, by go_num, rfl, Hm2, hg⟩
        case measure => simp [intOf]; omega
    · have hkn : k = n := by omega
      subst hkn
      have d1 : decide (k < k) = false := by simp
      have d2 : decide ((k : Int) < (k : Int)) = false := by simp
      have He : Hid (m = lastR dev l 0) := by
        show _ = _
        have h := HX.out
        rwa [List.take_of_length_le (by rw [Hl.out.1]; exact Nat.le_refl _)] at h
      go_wp2_with fail
      go_ret
      exact ⟨by rw [← He.out]; rfl, hg⟩
end Go.Proofs.Ytblndpfgfakdeaa.Dt
