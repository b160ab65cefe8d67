/- The document's Members, Ints. Written by gen_ro.py. -/
import Derived.Test.YtaecfcodldbnhaaRoMem
set_option linter.unusedVariables false
namespace Go.Proofs.Ytaecfcodldbnhaa.Ro
open Go Go.RowKit Go.Proofs.Ytaecfcodldbnhaa.Mm Go.Proofs.Ytaecfcodldbnhaa.Td Go.Proofs.Ytaecfcodldbnhaa.Vw Go.Proofs.Ytaecfcodldbnhaa.Dt

open Go.Proofs.Ytaecfcodldbnhaa.Mb
attribute [local go_sem] Td.upon_value Td.upon_skip Td.upon_enter Td.upon_row Td.look_tmp Td.look_const Td.look_func Td.look_global
set_option maxHeartbeats 16000000 in
set_option maxRecDepth 100000 in
theorem refMembers_any (A : Option Addr) (n c : Nat) (l : List Rc) (e : Int) (w : World) (hl : LogL w A n l) (hn : n ≤ 1099511627776) :
    Calls Try.prog 8 #[.slice A n c, .int .i64 e] w (IntsIs (memsB l e) w) := by
  have HB : Hid (∀ (d : Int) (W : World), w.grownBy W none → Calls Try.prog 10 #[.slice A n c, .int .i64 e, .int .i64 d] W fun x w' => x = .returned (.bool (inB l e d)) ∧ W = w') := fun d W hW => refIn_any A n c l e d W (hl.keep hW) hn
  obtain ⟨i0, hi0, hz0, hz1, hz2⟩ := int_parts
  have Hi0 := Lib.hid hi0
  have Hz0 := Lib.hid hz0
  have Hz1 := Lib.hid hz1
  have Hz2 := Lib.hid hz2
  clear hl hn hi0 hz0 hz1 hz2
  go_enter Try.func8, Try.ntmps8
  go_wp2_with fail
  go_loopw [5, 6] (fun lv iv wr => ∃ (k N : Nat), k ≤ 8 ∧ iv = .int .i64 k ∧ Hid ((memsU l e k).length = N) ∧ wr.ownsRow w.heap.size 3 1 lv N (ivs (memsU l e k)) ∧ w.grownBy wr none) (fun _ iv _ => 8 - (intOf iv).toNat)
  case atStart => exact ⟨0, 0, by omega, rfl, rfl, World.ownsRow_nil _ _ _ _, gb_refl _ _⟩
  case round =>
    obtain ⟨k, N, hk, rfl, HN, hown, hg⟩ := hrel
    have HO := Lib.hid hown
    have Hg := Lib.hid hg
    have Hsz : Hid (w.heap.size ≤ wr.heap.size) := hg.size
    have HN8 : Hid (N ≤ 8) := by have := memsU_len l e k; have := HN.out; show _ ≤ _; omega
    have HC := Lib.hid (HB.out (k : Int) wr hg)
    clear hg
    by_cases hlt : k < 8
    · have d1 : decide ((k : Int) < 8) = true := decide_eq_true (by omega)
      have d1n : decide (k < 8) = true := decide_eq_true (by omega)
      obtain ⟨lA, ln, lc, rfl⟩ := own_slice1 hown
      clear hown
      go_wp2_with fail
      refine HC.out.mono ?_
      rintro x _ ⟨rfl, rfl⟩
      cases hq : inB l e (k : Int) with
      | true =>
        have HQ := Lib.hid hq
        clear hq
        go_wp2_with (at_builtin; go_must (refine wpList_append_own _ rfl (.tmp 15) (.tmp 17) 24 rfl w.heap.size 3 i0 (.int .i64 0) 1 8 Try.underlying24 Hi0.out Hz0.out Hz1.out Hz2.out rfl (by decide) _ N _ rfl (HO.out.kept (gb_alloc (gb_refl wr none) (.cells #[.int .i64 (k : Int)] 3)) (by cases hv : Value.ownBlock _ <;> simp)) ⟨wr.heap.size, 0, none⟩ 1 1 (ivs [(k : Int)]) rfl rfl (one_new _ _ _) (ivs_one _) (by have := HN8.out; simp only [maxLen]; omega) (by have := HN8.out; omega) (by have := Hsz.out; simp; omega) ?_); intro v2 w2 own2 grow2 _)
        have g2 : w.grownBy w2 none := gb_step (gb_alloc Hg.out _) grow2 (fun i e => .inr (own_far1 HO.out i e))
        have HO2 : Hid (w2.ownsRow w.heap.size 3 1 v2 (N + 1) (ivs (memsU l e (k + 1)))) := by
          have h := own2
          show World.ownsRow _ _ _ _ _ _ _
          rw [memsU_yes HQ.out]
          have e1 : ivs (memsU l e k ++ [(k : Int)]) = ivs (memsU l e k) ++ ivs [(k : Int)] := by simp [ivs]
          rw [e1]
          exact h
        have HN2 : Hid ((memsU l e (k + 1)).length = N + 1) := by show _ = _; rw [memsU_yes HQ.out, List.length_append, HN.out]; rfl
        have Hg2 := Lib.hid g2
        clear own2 grow2 g2
        go_roundw
        case rel => exact ⟨k + 1, N + 1, by omega, by go_num, HN2, HO2.out, Hg2.out⟩
        case measure => simp [intOf]; omega
      | false =>
        have HQ := Lib.hid hq
        clear hq
        go_wp2_with fail
        go_roundw
        case rel => exact ⟨k + 1, N, by omega, by go_num, by rw [memsU_no HQ.out]; exact HN, by rw [memsU_no HQ.out]; exact HO.out, Hg.out⟩
        case measure => simp [intOf]; omega
    · have d1 : decide ((k : Int) < 8) = false := decide_eq_false (by omega)
      have d1n : decide (k < 8) = false := decide_eq_false (by omega)
      obtain rfl : k = 8 := by omega
      obtain ⟨A3, c3, rfl, hil⟩ := own_il HO.out HN.out
      have Hil := Lib.hid hil
      clear hil
      go_wp2_with fail
      go_ret
      have e1 : (memsB l e).length = N := HN.out
      exact ⟨A3, c3, by rw [e1]; rfl, by rw [e1]; exact Hil.out, Hg.out⟩
set_option maxHeartbeats 8000000 in
set_option maxRecDepth 100000 in
theorem ints_any (A B : Option Addr) (n c m d : Nat) (a b : List Int) (w : World) (ha : IL w A n a) (hb : IL w B m b) (hn : n ≤ 1099511627776) (hm : m ≤ 1099511627776) :
    Calls Try.prog 6 #[.slice A n c, .slice B m d] w (BoolIs (a = b) w) := by
  have Ha := Lib.hid ha
  have Hb := Lib.hid hb
  have Hn := Lib.hid hn
  clear ha hb
  by_cases hnm : n = m
  · subst hnm
    have e0 : ((n : Int) != (n : Int)) = false := by simp
    clear hn hm
    go_enter Try.func6, Try.ntmps6
    go_wp2_with fail
    go_loopw [5] (fun i wr => ∃ k : Nat, k ≤ n ∧ i = .int .i64 k ∧ Hid (a.take k = b.take k) ∧ w.grownBy wr none) (fun i _ => n - (intOf i).toNat)
    case atStart => exact ⟨0, Nat.zero_le _, rfl, by show _ = _; rfl, gb_refl _ _⟩
    case round =>
      obtain ⟨k, hk, rfl, HX, hg⟩ := hrel
      by_cases hlt : k < n
      · have d1 : decide (k < n) = true := decide_eq_true hlt
        have d2 : decide ((k : Int) < (n : Int)) = true := decide_eq_true (by omega)
        have bk : (k : Int) < (n : Int) := by omega
        have t0 : IntKind.i64.wrap ((k : Int) + 1) = ((k + 1 : Nat) : Int) := by rw [IntKind.wrap_i64]; have := Hn.out; omega
        have hIA := Ha.out.keep hg
        have hIB := Hb.out.keep hg
        obtain ⟨g, o, rfl, hgl, _⟩ := hIA.2 (by omega)
        obtain ⟨g', o', rfl, hgl', _⟩ := hIB.2 (by omega)
        obtain ⟨x, hx⟩ : ∃ x, a[k]? = some x := ⟨_, List.getElem?_eq_getElem (by rw [Ha.out.1]; exact hlt)⟩
        obtain ⟨y, hy⟩ : ∃ y, b[k]? = some y := ⟨_, List.getElem?_eq_getElem (by rw [Hb.out.1]; exact hlt)⟩
        have z0 := (il_at hIA hx).2
        have z1 := (il_at hIB hy).2
        have Hx := Lib.hid hx
        have Hy := Lib.hid hy
        have HT : Hid (a.take (k + 1) = a.take k ++ [x]) := by show _ = _; rw [List.take_add_one, hx]; rfl
        have HT2 : Hid (b.take (k + 1) = b.take k ++ [y]) := by show _ = _; rw [List.take_add_one, hy]; rfl
        have Hlt := Lib.hid hlt
        have Hg := Lib.hid hg
        clear hx hy hIA hIB hgl hgl' hlt hk hg
        by_cases hxy : x = y
        · have t1 : (x == y) = true := eq_yes hxy
          have t2 : (x != y) = false := by rw [bne, t1]; rfl
          have Hnext : Hid (a.take (k + 1) = b.take (k + 1)) := by show _ = _; rw [HT.out, HT2.out, HX.out, hxy]
          clear hxy
          go_wp2_with fail
          go_quiet (fail)
          go_wp2_with fail
          go_roundw
          case rel => exact ⟨k + 1, by have := Hlt.out; omega, by go_num, Hnext, by first | exact gb_drewN Hg.out _ | exact gb_drew Hg.out | exact Hg.out⟩
          case measure => simp [intOf]; have := Hlt.out; omega
        · have t1 : (x == y) = false := eq_no hxy
          have t2 : (x != y) = true := by rw [bne, t1]; rfl
          have Hno : Hid (a ≠ b) := fun h => hxy (by
              have h1 := Hx.out
              rw [h, Hy.out] at h1
              exact (Option.some.inj h1).symm)
          clear hxy
          go_wp2_with fail
          go_quiet (fail)
          go_wp2_with fail
          go_ret
          exact .of_no Hno.out (by first | exact gb_drewN Hg.out _ | exact gb_drew Hg.out | exact Hg.out)
      · have hkn : k = n := by omega
        subst hkn
        have d1 : decide (k < k) = false := by simp
        have d2 : decide ((k : Int) < (k : Int)) = false := by simp
        have He : Hid (a = b) := by
          have h := HX.out
          rwa [List.take_of_length_le (by rw [Ha.out.1]; exact Nat.le_refl _), List.take_of_length_le (by rw [Hb.out.1]; exact Nat.le_refl _)] at h
        go_wp2_with fail
        go_ret
        exact .of_yes He.out hg
  · have e0 : ((n : Int) != (m : Int)) = true := by
      rw [bne, eq_no (fun h => hnm (by omega))]; rfl
    have Hno : Hid (a ≠ b) := fun h => hnm (by rw [← Ha.out.1, ← Hb.out.1, h])
    clear hnm hn hm
    go_enter Try.func6, Try.ntmps6
    go_wp2_with fail
    go_ret
    exact .of_no Hno.out (gb_refl _ _)
end Go.Proofs.Ytaecfcodldbnhaa.Ro
