/-
  Proved: whatever values of its parameters' types it is called with, deaddroplaw16.RosterMade returns true, and each argument reads behind the call as it read before.
  Conditions: none but those of the row itself.
-/
import Derived.Test.YtaecfcodldbnhaaRows
import Derived.WalkKit
import Derived.ProofKit
import Derived.OpenShut
import Derived.ShutString
import Derived.Test.YtaecfcodldbnhaaRoLaw
import Derived.Deep.DeepCutAuto
import Derived.Deep.QuietTactic
import Derived.ChangeOld
import Derived.Below
namespace Go.Proofs.Ytaecfcodldbnhaa.rosterMade
open Go.ChangeShapes Go.WideShapes Go.ChangeAt Go.RowKit
open Go.ChangeMaps (open_string shut_string)
open Go.Proofs.Ytaecfcodldbnhaa.Mm Go.Proofs.Ytaecfcodldbnhaa.Dt Go.Proofs.Ytaecfcodldbnhaa.Td Go.Proofs.Ytaecfcodldbnhaa.Vw Go.Proofs.Ytaecfcodldbnhaa.Mb Go.Proofs.Ytaecfcodldbnhaa.Ro
set_option linter.unusedVariables false

theorem own : ownKnob Try.prog.godebug = none := by kernel_rfl
theorem laidOut : laidOutB Try.prog = true := by kernel_rfl
/-- What the walk is told of a slice of integers that came in. -/
def IsRow (k : IntKind) (w : World) (a : Option Addr) (len cap : Nat) (zs : List Int) : Prop :=
  (a = none ∧ len = 0 ∧ cap = 0 ∧ zs = []) ∨
  ∃ x, a = some x ∧ len ≤ cap ∧ cap ≤ maxLen ∧ zs.length = cap ∧ (∀ i, i < zs.length → w.cell? (x.add i) = some (.int k (zs.getD i 0))) ∧ ∀ n ∈ zs, (Lit.int k n).wf = true

attribute [local go_sem] Td.upon_value Td.upon_skip Td.upon_enter Td.upon_row Td.look_tmp Td.look_const Td.look_func Td.look_global
theorem u8_of {a : Int} (h : (Lit.int .u8 a).wf = true) : 0 ≤ a ∧ a ≤ 255 := by
  have h1 : IntKind.u8.min = 0 := by decide
  have h2 : IntKind.u8.max = 255 := by decide
  simp only [Lit.wf, h1, h2, Bool.and_eq_true, decide_eq_true_eq] at h
  exact h
theorem mem_next {M : List Int} {j : Nat} {x d : Int} (h : M[j]? = some x) : decide (d ∈ M.take (j + 1)) = (decide (d ∈ M.take j) || decide (x = d)) := by
  rw [List.take_add_one, h]
  by_cases h1 : d ∈ M.take j
  · rw [decide_eq_true h1, Bool.true_or, decide_eq_true (List.mem_append.2 (.inl h1))]
  · rw [decide_eq_false h1, Bool.false_or]
    by_cases h2 : x = d
    · rw [decide_eq_true h2]; exact decide_eq_true (List.mem_append.2 (.inr (by rw [h2]; exact List.mem_singleton.2 rfl)))
    · rw [decide_eq_false h2]
      refine decide_eq_false fun h3 => ?_
      rcases List.mem_append.1 h3 with h4 | h4
      · exact h1 h4
      · exact h2 (List.mem_singleton.1 h4).symm
theorem u8l_of {w : World} {a : Option Addr} {len cap : Nat} {zs : List Int}
    (h : (a = none ∧ len = 0 ∧ cap = 0 ∧ zs = []) ∨ ∃ x, a = some x ∧ len ≤ cap ∧ cap ≤ maxLen ∧ zs.length = cap ∧ (∀ i, i < zs.length → w.cell? (x.add i) = some (.int .u8 (zs.getD i 0))) ∧ ∀ n ∈ zs, (Lit.int .u8 n).wf = true) :
    U8L w a len ((zs.take len).map Int.toNat) := by
  rcases h with ⟨rfl, rfl, rfl, rfl⟩ | ⟨x, rfl, hl, hc, hz, hcell, hwf⟩
  · exact ⟨rfl, fun h => absurd h (by omega)⟩
  · refine ⟨by rw [List.length_map, List.length_take]; omega, fun h0 => ?_⟩
    obtain ⟨b, o, sp⟩ := x
    have c0 := hcell 0 (by omega)
    cases sp with
    | some sp =>
      exfalso
      simp only [Addr.add, World.cell?] at c0
      split at c0 <;> simp at c0
    | none =>
      refine ⟨b, o, rfl, ?_, fun i x hx => ?_⟩
      · have := block_lt_of_cell c0
        simpa [Addr.add] using this
      · rw [List.getElem?_map, List.getElem?_take] at hx
        split at hx
        · obtain ⟨z, hz2, rfl⟩ := Option.map_eq_some_iff.1 hx
          have hin := (List.getElem?_eq_some_iff.1 hz2).1
          have ci := hcell i hin
          have hadd : (⟨b, o, none⟩ : Addr).add i = ⟨b, o + i, none⟩ := by unfold Addr.add; split <;> simp_all
          rw [hadd, List.getD_eq_getElem?_getD, hz2] at ci
          have hv := hwf z (List.mem_of_getElem? hz2)
          have hb : 0 ≤ z ∧ z ≤ 255 := by
            have h1 : IntKind.u8.min = 0 := by decide
            have h2 : IntKind.u8.max = 255 := by decide
            simp only [Lit.wf, h1, h2, Bool.and_eq_true, decide_eq_true_eq] at hv
            exact hv
          refine ⟨by omega, ?_⟩
          rw [show ((z.toNat : Nat) : Int) = z by omega]
          exact ci
        · cases hx

set_option maxHeartbeats 40000000 in
set_option maxRecDepth 100000 in
theorem walk (a0 : Option Addr) (len0 cap0 : Nat) (z0 : List Int) (a1 : Int) (w : World) (w0 : IsRow .u8 w a0 len0 cap0 z0) (w1 : (Lit.int .u8 a1).wf = true) :
    Calls Try.prog 4 #[.slice a0 len0 cap0, .int .u8 a1] w fun e w' => e = .returned (.bool true) ∧ Below w.heap.size w w' := by
  obtain ⟨n1, n1'⟩ := u8_of w1
  have hu8 := u8l_of w0
  obtain ⟨ns, hns⟩ : ∃ ns, (z0.take len0).map Int.toNat = ns := ⟨_, rfl⟩
  rw [hns] at hu8
  have HU8 := Lib.hid hu8
  clear w0 hns hu8
  clear w1
  go_enter Try.func4, Try.ntmps4
  go_wp2_with fail
  refine (chain_any a0 len0 cap0 ns w HU8.out).mono ?_
  rintro e v1 ⟨u1, rfl, hown, g1⟩
  have hch := chainC_chain ns
  have h1N : 1 ≤ (chainC ns).length := by rw [chainC_len]; omega
  obtain ⟨A, c9, rfl, hLL, hle⟩ := chain_own hown
  generalize chainC ns = C at *
  obtain ⟨N, hN⟩ : ∃ N, C.length = N := ⟨_, rfl⟩
  rw [hN] at hLL hle h1N ⊢
  have hN40 : N ≤ 40 := by rw [← hN]; exact hch.1
  have HG1 := Lib.hid g1
  have HN := Lib.hid hN
  have HN1 : Hid (1 ≤ N ∧ N ≤ 40) := ⟨h1N, hN40⟩
  have HL : Hid (∀ W, v1.grownBy W none → LogL W A N C) := fun W hW => hLL.keep hW
  have HGd : Hid (GoodR C) := hch.2
  have Hle := Lib.hid hle
  clear hown hLL g1 hch
  obtain ⟨K, hK, hK2⟩ : ∃ K : Nat, a1 % (N : Int) = (K : Int) ∧ K < N := by
    have h1 := Int.emod_nonneg a1 (show (N : Int) ≠ 0 by omega)
    have h2 := Int.emod_lt_of_pos a1 (show (0 : Int) < (N : Int) by omega)
    exact ⟨(a1 % (N : Int)).toNat, by omega, by omega⟩
  obtain ⟨r, hr⟩ : ∃ r, C[K]? = some r := ⟨_, List.getElem?_eq_getElem (by omega)⟩
  have hbig : N ≤ 1099511627776 := by omega
  have HNext : Hid (∀ k : Nat, k < 8 → inB C ((K + 1 : Nat) : Int) (k : Int) = if r.dev = (k : Int) then decide (r.kind = 1) else inB C (K : Int) (k : Int)) := fun k hk => in_next HGd.out hr (by omega) (by omega)
  obtain ⟨M, hM⟩ : ∃ M, memsB C ((K + 1 : Nat) : Int) = M := ⟨_, rfl⟩
  have HMl : Hid (M.length ≤ 8) := by show _ ≤ _; rw [← hM]; exact mems_len _ _
  have HRs : Hid (RiseI M) := by show RiseI _; rw [← hM]; exact mems_rise _ _
  have HMem : Hid (∀ k : Nat, decide ((k : Int) ∈ M) = inB C ((K + 1 : Nat) : Int) (k : Int)) := fun k => by
    rw [← hM]
    cases hb : inB C ((K + 1 : Nat) : Int) (k : Int) with
    | true => exact decide_eq_true ((mems_mem _ _ _).2 hb)
    | false => exact decide_eq_false fun h => by rw [(mems_mem _ _ _).1 h] at hb; cases hb
  have HM1 : Hid (∀ W, v1.grownBy W none → Calls Try.prog 7 #[.slice A N c9, .int .i64 ((K : Int) + 1)] W (IntsIs M W)) := fun W hW => by
    rw [← hM]; exact pMembers_any A N c9 C ((K : Int) + 1) W (HL.out W hW) hbig
  have HM0 : Hid (∀ W, v1.grownBy W none → Calls Try.prog 7 #[.slice A N c9, .int .i64 0] W fun e w' => ∃ A c, e = .returned (.slice A 0 c) ∧ W.grownBy w' none) := fun W hW => (pMembers_any A N c9 C 0 W (HL.out W hW) hbig).mono fun e w' h => by
    obtain ⟨A5, c5, rfl, _, h4⟩ := h
    exact ⟨A5, c5, by rw [mems_none HGd.out]; rfl, h4⟩
  have HI0 : Hid (∀ (k : Nat) W, v1.grownBy W none → Calls Try.prog 9 #[.slice A N c9, .int .i64 (K : Int), .int .i64 (k : Int)] W fun x w' => x = .returned (.bool (inB C (K : Int) (k : Int))) ∧ W.grownBy w' none) := fun k W hW => pIn_any A N c9 C (K : Int) (k : Int) W (HL.out W hW) hbig
  have HI1 : Hid (∀ (k : Nat) W, v1.grownBy W none → Calls Try.prog 9 #[.slice A N c9, .int .i64 ((K : Int) + 1), .int .i64 (k : Int)] W fun x w' => x = .returned (.bool (inB C ((K + 1 : Nat) : Int) (k : Int))) ∧ W.grownBy w' none) := fun k W hW => pIn_any A N c9 C ((K : Int) + 1) (k : Int) W (HL.out W hW) hbig
  have t1 : IntKind.i64.wrap a1 = a1 := by rw [IntKind.wrap_i64]; omega
  have t2 : a1.tmod (N : Int) = (K : Int) := by rw [Int.tmod_eq_emod_of_nonneg n1, hK]
  have t3 : ¬ (N : Int) = 0 := by omega
  have t3b : ¬ N = 0 := by omega
  have t4 : IntKind.i64.wrap (K : Int) = (K : Int) := by rw [IntKind.wrap_i64]; omega
  have HT : Hid (IntKind.i64.wrap ((K : Int) + 1) = (K : Int) + 1 ∧ (K : Int) < (N : Int)) := ⟨by rw [IntKind.wrap_i64]; omega, by omega⟩
  obtain ⟨g, oo, rfl, _, _⟩ := (HL.out v1 (gb_refl _ _)).2 (by omega)
  have HC : Hid (∀ W, v1.grownBy W none → W.cell? ⟨g, oo + K * 6 + 2, none⟩ = some (.int .i64 r.kind) ∧ W.cell? ⟨g, oo + K * 6 + 3, none⟩ = some (.int .i64 r.dev)) := fun W hW => (log_idx (HL.out W hW) hr).2
  clear hM hbig hK hK2 n1 n1' h1N hN40 hN hle hr
  go_upto_region 3 with fail
  clear t1 t2 t3 t3b t4
  go_wp2_with fail
  go_loopw [7] (fun iv wr => ∃ k : Nat, k ≤ 8 ∧ iv = .int .i64 k ∧ v1.grownBy wr none) (fun iv _ => 8 - (intOf iv).toNat)
  case atStart => exact ⟨0, by decide, rfl, gb_refl _ _⟩
  case round =>
    obtain ⟨k, hk, rfl, hg⟩ := hrel
    have G0 := Lib.hid hg
    by_cases hlt : k < 8
    · have d1 : decide (k < 8) = true := decide_eq_true hlt
      have d2 : decide ((k : Int) < 8) = true := decide_eq_true (by omega)
      have tk : IntKind.i64.wrap ((k : Int) + 1) = ((k + 1 : Nat) : Int) := by rw [IntKind.wrap_i64]; omega
      have hnx := HNext.out k hlt
      have hme := HMem.out k
      have hi0 := HI0.out k wr hg
      obtain ⟨q1, hq1⟩ : ∃ q1, inB C (K : Int) (k : Int) = q1 := ⟨_, rfl⟩
      obtain ⟨q2, hq2⟩ : ∃ q2, inB C ((K + 1 : Nat) : Int) (k : Int) = q2 := ⟨_, rfl⟩
      rw [hq1, hq2] at hnx
      rw [hq2] at hme
      have HQ2 := Lib.hid hme
      have HNX := Lib.hid hnx
      have Hi0 : Hid (Calls Try.prog 9 #[.slice (some ⟨g, oo, none⟩) N c9, .int .i64 (K : Int), .int .i64 (k : Int)] wr fun x w' => x = .returned (.bool q1) ∧ wr.grownBy w' none) := by rw [← hq1]; exact hi0
      have Hi1 : Hid (∀ W, v1.grownBy W none → Calls Try.prog 9 #[.slice (some ⟨g, oo, none⟩) N c9, .int .i64 ((K : Int) + 1), .int .i64 (k : Int)] W fun x w' => x = .returned (.bool q2) ∧ W.grownBy w' none) := fun W hW => by rw [← hq2]; exact HI1.out k W hW
      have Hk8 : Hid (k < 8) := hlt
      clear hnx hme hi0 hq1 hq2 hlt hk hg
      obtain ⟨p1, bK⟩ := HT.out
      go_wp2_with fail
      refine (Hi0.out).mono ?_
      rintro e v2 ⟨rfl, g2⟩
      have G2 := Lib.hid (gb_none G0.out g2)
      clear g2
      go_wp2_with fail
      refine (Hi1.out v2 G2.out).mono ?_
      rintro e v3 ⟨rfl, g3⟩
      have G3 := Lib.hid (gb_none G2.out g3)
      clear g3
      go_upto_region 7 with fail
      obtain ⟨y2, y3⟩ := HC.out v3 G3.out
      go_cut [63] (fun cv wx => cv = .bool false ∧ wx = v3)
      case first =>
        by_cases hd : r.dev = (k : Int)
        · have e1 : (r.dev == (k : Int)) = true := eq_yes hd
          have e1n : (r.dev != (k : Int)) = false := by rw [bne, e1]; rfl
          have HX : Hid (q2 = decide (r.kind = 1)) := by have h := HNX.out; rwa [if_pos hd] at h
          clear hd
          by_cases hk1 : r.kind = 1
          · have e2 : (r.kind == 1) = true := eq_yes hk1
            have hx := HX.out
            rw [decide_eq_true hk1] at hx
            subst hx
            clear hk1 HX
            go_wp2_with fail
            go_meet
            exact ⟨rfl, rfl⟩
          · have e2 : (r.kind == 1) = false := eq_no hk1
            have hx := HX.out
            rw [decide_eq_false hk1] at hx
            subst hx
            clear hk1 HX
            go_wp2_with fail
            go_meet
            exact ⟨rfl, rfl⟩
        · have e1 : (r.dev == (k : Int)) = false := eq_no hd
          have e1n : (r.dev != (k : Int)) = true := by rw [bne, e1]; rfl
          have HX : Hid (q2 = q1) := by have h := HNX.out; rwa [if_neg hd] at h
          clear hd
          have hx := HX.out
          subst hx
          clear HX
          cases q2 with
          | true =>
            go_wp2_with fail
            go_meet
            exact ⟨rfl, rfl⟩
          | false =>
            go_wp2_with fail
            go_meet
            exact ⟨rfl, rfl⟩
      case rest =>
        obtain ⟨rfl, hwc⟩ := hcut
        have hwc2 := hwc.symm
        subst hwc2
        clear hwc
        go_upto_region 10 with fail
        go_wp2_with fail
        refine (HM1.out v3 G3.out).mono ?_
        rintro e v4 ⟨A4, c4, rfl, h4, g4⟩
        have H4 := Lib.hid h4
        have G4 := Lib.hid (gb_none G3.out g4)
        clear h4 g4
        obtain ⟨m, hm⟩ : ∃ m, M.length = m := ⟨_, rfl⟩
        have Hm := Lib.hid hm
        rw [hm] at H4 ⊢
        have Hm8 : Hid (m ≤ 8) := by show _ ≤ _; rw [← hm]; exact HMl.out
        clear hm
        go_wp2_with fail
        go_loopw [10, 12] (fun bv iv wr => ∃ j : Nat, j ≤ m ∧ iv = .int .i64 j ∧ bv = .bool (decide ((k : Int) ∈ M.take j)) ∧ v4.grownBy wr none) (fun _ iv _ => m - (intOf iv).toNat)
        case atStart => exact ⟨0, Nat.zero_le _, rfl, rfl, gb_refl _ _⟩
        case round =>
          obtain ⟨j, hj, rfl, rfl, hg⟩ := hrel
          have Hg := Lib.hid hg
          obtain ⟨q0, hq0⟩ : ∃ q0, decide ((k : Int) ∈ M.take j) = q0 := ⟨_, rfl⟩
          have Hq := Lib.hid hq0
          rw [hq0]
          clear hq0
          by_cases hjm : j < m
          · have f1 : decide (j < m) = true := decide_eq_true hjm
            have f2 : decide ((j : Int) < (m : Int)) = true := decide_eq_true (by omega)
            have bj : (j : Int) < (m : Int) := by omega
            have tj : IntKind.i64.wrap ((j : Int) + 1) = ((j + 1 : Nat) : Int) := by rw [IntKind.wrap_i64]; have := Hm8.out; omega
            have hIL := H4.out.keep hg
            obtain ⟨g, o, rfl, _, _⟩ := hIL.2 (by omega)
            obtain ⟨x, hx⟩ : ∃ x, M[j]? = some x := ⟨_, List.getElem?_eq_getElem (by rw [Hm.out]; exact hjm)⟩
            have z0 := (il_at hIL hx).2
            have HNx : Hid (decide ((k : Int) ∈ M.take (j + 1)) = (q0 || decide (x = (k : Int)))) := by show _ = _; rw [← Hq.out]; exact mem_next hx
            have Hjm := Lib.hid hjm
            by_cases h0 : j = 0
            · have p1 : decide ((0 : Int) < (j : Int)) = false := decide_eq_false (by omega)
              have p1n : decide (0 < j) = false := decide_eq_false (by omega)
              clear h0 hx hIL hjm hj hg
              by_cases hxk : x = (k : Int)
              · have s1 : (x == (k : Int)) = true := eq_yes hxk
                cases q0 with
                | true =>
                  have HX : Hid ((true || decide (x = (k : Int))) = true) := rfl
                  clear hxk
                  go_wp2_with fail
                  go_quiet (fail)
                  go_wp2_with fail
                  go_roundw
                  case rel => exact ⟨j + 1, by have := Hjm.out; omega, by go_num, by rw [HNx.out, HX.out], by first | exact gb_drewN Hg.out _ | exact gb_drew Hg.out | exact Hg.out⟩
                  case measure => simp [intOf]; have := Hjm.out; omega
                | false =>
                  have HX : Hid ((false || decide (x = (k : Int))) = true) := by show _ = _; rw [decide_eq_true hxk]; rfl
                  clear hxk
                  go_wp2_with fail
                  go_quiet (fail)
                  go_wp2_with fail
                  go_roundw
                  case rel => exact ⟨j + 1, by have := Hjm.out; omega, by go_num, by rw [HNx.out, HX.out], by first | exact gb_drewN Hg.out _ | exact gb_drew Hg.out | exact Hg.out⟩
                  case measure => simp [intOf]; have := Hjm.out; omega
              · have s1 : (x == (k : Int)) = false := eq_no hxk
                cases q0 with
                | true =>
                  have HX : Hid ((true || decide (x = (k : Int))) = true) := rfl
                  clear hxk
                  go_wp2_with fail
                  go_quiet (fail)
                  go_wp2_with fail
                  go_roundw
                  case rel => exact ⟨j + 1, by have := Hjm.out; omega, by go_num, by rw [HNx.out, HX.out], by first | exact gb_drewN Hg.out _ | exact gb_drew Hg.out | exact Hg.out⟩
                  case measure => simp [intOf]; have := Hjm.out; omega
                | false =>
                  have HX : Hid ((false || decide (x = (k : Int))) = false) := by show _ = _; rw [decide_eq_false hxk]; rfl
                  clear hxk
                  go_wp2_with fail
                  go_quiet (fail)
                  go_wp2_with fail
                  go_roundw
                  case rel => exact ⟨j + 1, by have := Hjm.out; omega, by go_num, by rw [HNx.out, HX.out], by first | exact gb_drewN Hg.out _ | exact gb_drew Hg.out | exact Hg.out⟩
                  case measure => simp [intOf]; have := Hjm.out; omega
            · obtain ⟨y, hy⟩ : ∃ y, M[j - 1]? = some y := ⟨_, List.getElem?_eq_getElem (by rw [Hm.out]; omega)⟩
              obtain ⟨i, hi⟩ : ∃ i, j - 1 = i := ⟨_, rfl⟩
              rw [hi] at hy
              have hji : j = i + 1 := by omega
              have hlt : y < x := HRs.out i y x hy (by rw [← hji]; exact hx)
              have z1 := (il_at hIL hy).2
              have p1 : decide ((0 : Int) < (j : Int)) = true := decide_eq_true (by omega)
              have p1n : decide (0 < j) = true := decide_eq_true (by omega)
              have p2 : IntKind.i64.wrap ((j : Int) - 1) = (i : Int) := by rw [IntKind.wrap_i64]; have := Hm8.out; omega
              have p3 : (i : Int) < (m : Int) := by omega
              have p4 : decide (x ≤ y) = false := decide_eq_false (by omega)
              clear h0 hx hy hi hji hlt hIL hjm hj hg
              by_cases hxk : x = (k : Int)
              · have s1 : (x == (k : Int)) = true := eq_yes hxk
                cases q0 with
                | true =>
                  have HX : Hid ((true || decide (x = (k : Int))) = true) := rfl
                  clear hxk
                  go_wp2_with fail
                  go_quiet (fail)
                  go_wp2_with fail
                  go_roundw
                  case rel => exact ⟨j + 1, by have := Hjm.out; omega, by go_num, by rw [HNx.out, HX.out], by first | exact gb_drewN Hg.out _ | exact gb_drew Hg.out | exact Hg.out⟩
                  case measure => simp [intOf]; have := Hjm.out; omega
                | false =>
                  have HX : Hid ((false || decide (x = (k : Int))) = true) := by show _ = _; rw [decide_eq_true hxk]; rfl
                  clear hxk
                  go_wp2_with fail
                  go_quiet (fail)
                  go_wp2_with fail
                  go_roundw
                  case rel => exact ⟨j + 1, by have := Hjm.out; omega, by go_num, by rw [HNx.out, HX.out], by first | exact gb_drewN Hg.out _ | exact gb_drew Hg.out | exact Hg.out⟩
                  case measure => simp [intOf]; have := Hjm.out; omega
              · have s1 : (x == (k : Int)) = false := eq_no hxk
                cases q0 with
                | true =>
                  have HX : Hid ((true || decide (x = (k : Int))) = true) := rfl
                  clear hxk
                  go_wp2_with fail
                  go_quiet (fail)
                  go_wp2_with fail
                  go_roundw
                  case rel => exact ⟨j + 1, by have := Hjm.out; omega, by go_num, by rw [HNx.out, HX.out], by first | exact gb_drewN Hg.out _ | exact gb_drew Hg.out | exact Hg.out⟩
                  case measure => simp [intOf]; have := Hjm.out; omega
                | false =>
                  have HX : Hid ((false || decide (x = (k : Int))) = false) := by show _ = _; rw [decide_eq_false hxk]; rfl
                  clear hxk
                  go_wp2_with fail
                  go_quiet (fail)
                  go_wp2_with fail
                  go_roundw
                  case rel => exact ⟨j + 1, by have := Hjm.out; omega, by go_num, by rw [HNx.out, HX.out], by first | exact gb_drewN Hg.out _ | exact gb_drew Hg.out | exact Hg.out⟩
                  case measure => simp [intOf]; have := Hjm.out; omega
          · have f1 : decide (j < m) = false := decide_eq_false hjm
            have f2 : decide ((j : Int) < (m : Int)) = false := decide_eq_false (by omega)
            have HF : Hid (q0 = q2) := by
              show _ = _
              rw [← Hq.out, List.take_of_length_le (by rw [Hm.out]; omega), HQ2.out]
            clear hjm hj hg
            have hf := HF.out
            subst hf
            clear HF
            cases q0 with
            | true =>
              go_wp2_with fail
              go_roundw
              case rel => exact ⟨k + 1, by have := Hk8.out; omega, by go_num, gb_none G4.out Hg.out⟩
              case measure => simp [intOf]; have := Hk8.out; omega
            | false =>
              go_wp2_with fail
              go_roundw
              case rel => exact ⟨k + 1, by have := Hk8.out; omega, by go_num, gb_none G4.out Hg.out⟩
              case measure => simp [intOf]; have := Hk8.out; omega
    · obtain rfl : k = 8 := by omega
      have d1 : decide (((8 : Nat) : Int) < 8) = false := by decide
      clear hlt hk hg
      go_wp2_with fail
      refine (HM0.out wr G0.out).mono ?_
      rintro e v2 ⟨A5, c5, rfl, g2⟩
      have G2 := Lib.hid (gb_none G0.out g2)
      clear g2
      go_wp2_with fail
      refine (awake16_any v2).mono ?_
      rintro e v3 ⟨rfl, g3⟩
      have G3 := Lib.hid (gb_none HG1.out (gb_none G2.out g3))
      clear g3
      go_wp2_with fail
      go_ret
      exact ⟨rfl, gb_below G3.out (Nat.le_refl _)⟩

set_option maxRecDepth 100000 in
theorem lifted (os : Os) (started : os.Started) (H : Type) (enc : TypeId × Value → H) :
    ReturnsInHanded {} Try.checked os 4 .any (Rows.rosterMadeSpec.pre6 enc Try.prog Try.f4 Rows.rosterMadeRow.domain false) (Rows.rosterMadeSpec.post enc Try.prog Try.f4 false true false false) := by
  refine returnsInHanded_of_change (C := Try.checked) own started (by kernel_rfl) Try.func4
    (ChangeSpec.witness6 (enc := enc) (C := Try.checked) false ⟨#[], #[.slice none 0 0, .int .u8 0], []⟩ 8 (by kernel_rfl) (by kernel_rfl) (by kernel_rfl) (by kernel_rfl)) ?_
  intro W base args ds gs before hval0 hW hcnd _
  have hval : ∀ (j : Nat) t v, Try.f4.params[j]? = some t → args[j]? = some v → Value.okWide Try.prog W .any base t v := hval0
  have hW' := hW
  obtain ⟨p, q, hA0, hV, rfl, hfz, hnd⟩ := hW
  have hA : DataW.TrodAll enc Try.prog W 0 (fun _ => true) true Try.f4.params.toList args.toList ds p := hA0
  rw [Try.params4] at hA hval
  obtain ⟨v0, vs0, d0, ds0, p0, q0, hargs, rfl, rfl, h0, r0⟩ := trodAll_cons hA
  obtain ⟨v1, vs1, d1, ds1, p1, q1, rfl, rfl, rfl, h1, r1⟩ := trodAll_cons r0
  obtain ⟨rfl, rfl, rfl⟩ := trodAll_nil r1
  obtain rfl : args = #[v0, v1] := by cases args; simp_all
  obtain ⟨rfl, rfl⟩ := trodVars_none hV
  have k0 := h0
  have lt0 : ∀ x ∈ p0, x.block < W.heap.size := by obtain ⟨m, hm⟩ := k0; exact DataW.trod_lt m _ _ _ hm
  obtain ⟨a0, len0, cap0, rfl⟩ := okWide_slice Try.underlying28 (hval 0 28 v0 rfl rfl)
  obtain ⟨z0, w0⟩ : ∃ zs, IsRow .u8 W a0 len0 cap0 zs := by
    obtain ⟨fuel, hf⟩ := h0
    rcases open_ints Try.underlying28 Try.underlying5 (by kernel_rfl) hf with ⟨hcs, _⟩ | ⟨x, l, c, zs, hcs, _, hl, hm, hz, _, hcell, hwz⟩
    · simp [Value.cells] at hcs
      obtain ⟨rfl, rfl, rfl⟩ := hcs
      exact ⟨[], .inl ⟨rfl, rfl, rfl, rfl⟩⟩
    · simp [Value.cells] at hcs
      obtain ⟨rfl, rfl, rfl⟩ := hcs
      exact ⟨zs, .inr ⟨_, rfl, hl, hm, by simpa using hz, hcell, hwz⟩⟩
  obtain ⟨a1, rfl, rfl, rfl, w1⟩ := open_int Try.underlying5 (hval 1 5 v1 rfl rfl) h1
  clear hA0 hval0
  refine (walk a0 len0 cap0 z0 a1 W w0 w1).mono fun e W' ⟨he, bel⟩ => ?_
  subst he
  exact ⟨_, rfl, _, _, _, [], _, [], hW', trodAll_mk1 (shut_bool Try.underlying4 _), (trodAll_cons_mk (Below.trod laidOut (by kernel_rfl) (of_decide_eq_true (by kernel_rfl)) k0 bel lt0) (trodAll_cons_mk (shut_int Try.underlying5 w1) trodAll_mk0)), rfl, bel.frame _, fun h => by cases h⟩

theorem over : Rows.rosterMadeRow.holds Try.pinned (OpenSpec.ofChange Rows.rosterMadeSpec) :=
  OpenClaim.holds_of_wide 4 Try.f4 rfl rfl rfl rfl rfl rfl rfl ⟨rfl, rfl, rfl, rfl, rfl⟩ rfl rfl rfl rfl rfl (by kernel_rfl) Try.func4 (by kernel_rfl)
    (of_decide_eq_true (by kernel_rfl)) (by unfold Func.isWrapper; first | (rw [if_pos (by decide +kernel)]; kernel_rfl) | (rw [if_neg (by decide +kernel)]; exact ⟨rfl, rfl⟩))
    (fun os started H enc _ => lifted os started H enc)

theorem proved : Rows.RosterMadeSaid := over
#print axioms proved
end Go.Proofs.Ytaecfcodldbnhaa.rosterMade
