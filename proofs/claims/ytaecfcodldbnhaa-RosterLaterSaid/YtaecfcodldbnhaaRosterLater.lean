/-
  Proved: whatever values of its parameters' types it is called with, deaddroplaw16.RosterLater returns true, and each argument reads behind the call as it read before.
  Conditions: none but those of the row itself.
-/
import Derived.Test.YtaecfcodldbnhaaRows
import Derived.WalkKit
import Derived.ProofKit
import Derived.OpenShut
import Derived.ShutString
import Derived.Test.YtaecfcodldbnhaaRoLaw
import Derived.ChangeOld
import Derived.Below
namespace Go.Proofs.Ytaecfcodldbnhaa.rosterLater
open Go.ChangeShapes Go.WideShapes Go.ChangeAt Go.RowKit
open Go.ChangeMaps (open_string shut_string)
open Go.Proofs.Ytaecfcodldbnhaa.Mm Go.Proofs.Ytaecfcodldbnhaa.Dt Go.Proofs.Ytaecfcodldbnhaa.Td Go.Proofs.Ytaecfcodldbnhaa.Vw Go.Proofs.Ytaecfcodldbnhaa.Mb Go.Proofs.Ytaecfcodldbnhaa.Ro
set_option linter.unusedVariables false

theorem own : ownKnob Try.prog.godebug = none := by kernel_rfl
theorem laidOut : laidOutB Try.prog = true := by kernel_rfl
/-- What the walk is told of a slice of integers that came in. -/
def IsRow (k : IntKind) (w : World) (a : Option Addr) (len cap : Nat) (zs : List Int) : Prop :=
  (a = none ∧ len = 0 ∧ cap = 0 ∧ zs = []) ∨
  ∃ x, a = some x ∧ len ≤ cap ∧ cap ≤ maxLen ∧ zs.length = cap ∧ (∀ i, i < zs.length → w.cell? (x.add i) = some (.int k (zs.getD i 0))) ∧ ∀ n ∈ zs, (Lit.int k n).wf = true

attribute [local go_sem] Td.upon_value Td.upon_skip Td.upon_enter Td.upon_row Td.look_tmp Td.look_const Td.look_func Td.look_global
theorem u16_of {a : Int} (h : (Lit.int .u16 a).wf = true) : 0 ≤ a ∧ a ≤ 65535 := by
  have h1 : IntKind.u16.min = 0 := by decide
  have h2 : IntKind.u16.max = 65535 := by decide
  simp only [Lit.wf, h1, h2, Bool.and_eq_true, decide_eq_true_eq] at h
  exact h
theorem u8_of {a : Int} (h : (Lit.int .u8 a).wf = true) : 0 ≤ a ∧ a ≤ 255 := by
  have h1 : IntKind.u8.min = 0 := by decide
  have h2 : IntKind.u8.max = 255 := by decide
  simp only [Lit.wf, h1, h2, Bool.and_eq_true, decide_eq_true_eq] at h
  exact h
theorem u8l_of {w : World} {a : Option Addr} {len cap : Nat} {zs : List Int}
    (h : (a = none ∧ len = 0 ∧ cap = 0 ∧ zs = []) ∨ ∃ x, a = some x ∧ len ≤ cap ∧ cap ≤ maxLen ∧ zs.length = cap ∧ (∀ i, i < zs.length → w.cell? (x.add i) = some (.int .u8 (zs.getD i 0))) ∧ ∀ n ∈ zs, (Lit.int .u8 n).wf = true) :
    U8L w a len ((zs.take len).map Int.toNat) := by
  rcases h with ⟨rfl, rfl, rfl, rfl⟩ | ⟨x, rfl, hl, hc, hz, hcell, hwf⟩
  · exact ⟨rfl, fun h => absurd h (by omega)⟩
  · refine ⟨by rw [List.length_map, List.length_take]; omega, fun h0 => ?_⟩
    obtain ⟨b, o, sp⟩ := x
    have c0 := hcell 0 (by omega)
    cases sp with
    | some sp =>
      exfalso
      simp only [Addr.add, World.cell?] at c0
      split at c0 <;> simp at c0
    | none =>
      refine ⟨b, o, rfl, ?_, fun i x hx => ?_⟩
      · have := block_lt_of_cell c0
        simpa [Addr.add] using this
      · rw [List.getElem?_map, List.getElem?_take] at hx
        split at hx
        · obtain ⟨z, hz2, rfl⟩ := Option.map_eq_some_iff.1 hx
          have hin := (List.getElem?_eq_some_iff.1 hz2).1
          have ci := hcell i hin
          have hadd : (⟨b, o, none⟩ : Addr).add i = ⟨b, o + i, none⟩ := by unfold Addr.add; split <;> simp_all
          rw [hadd, List.getD_eq_getElem?_getD, hz2] at ci
          have hv := hwf z (List.mem_of_getElem? hz2)
          have hb : 0 ≤ z ∧ z ≤ 255 := by
            have h1 : IntKind.u8.min = 0 := by decide
            have h2 : IntKind.u8.max = 255 := by decide
            simp only [Lit.wf, h1, h2, Bool.and_eq_true, decide_eq_true_eq] at hv
            exact hv
          refine ⟨by omega, ?_⟩
          rw [show ((z.toNat : Nat) : Int) = z by omega]
          exact ci
        · cases hx

set_option maxHeartbeats 40000000 in
set_option maxRecDepth 100000 in
theorem walk (a0 : Option Addr) (len0 cap0 : Nat) (z0 : List Int) (a1 : Int) (a2 : Int) (w : World) (w0 : IsRow .u8 w a0 len0 cap0 z0) (w1 : (Lit.int .u8 a1).wf = true) (w2 : (Lit.int .u16 a2).wf = true) :
    Calls Try.prog 5 #[.slice a0 len0 cap0, .int .u8 a1, .int .u16 a2] w fun e w' => e = .returned (.bool true) ∧ Below w.heap.size w w' := by
  obtain ⟨n1, n1'⟩ := u8_of w1
  obtain ⟨n2, n2'⟩ : 0 ≤ a2 ∧ a2 ≤ 65535 := u16_of w2
  have hu8 := u8l_of w0
  obtain ⟨ns, hns⟩ : ∃ ns, (z0.take len0).map Int.toNat = ns := ⟨_, rfl⟩
  rw [hns] at hu8
  have HU8 := Lib.hid hu8
  clear w0 hns hu8
  clear w1 w2
  go_enter Try.func5, Try.ntmps5
  go_wp2_with fail
  refine (chain_any a0 len0 cap0 ns w HU8.out).mono ?_
  rintro e v1 ⟨u1, rfl, hown, g1⟩
  have hch := chainC_chain ns
  have h1N : 1 ≤ (chainC ns).length := by rw [chainC_len]; omega
  obtain ⟨A, c9, rfl, hLL, hle⟩ := chain_own hown
  generalize chainC ns = C at *
  obtain ⟨N, hN⟩ : ∃ N, C.length = N := ⟨_, rfl⟩
  rw [hN] at hLL hle h1N ⊢
  have hN40 : N ≤ 40 := by rw [← hN]; exact hch.1
  have HG1 := Lib.hid g1
  have HN := Lib.hid hN
  have HN1 : Hid (1 ≤ N ∧ N ≤ 40) := ⟨h1N, hN40⟩
  have HL : Hid (∀ W, v1.grownBy W none → LogL W A N C) := fun W hW => hLL.keep hW
  have HGd : Hid (GoodR C) := hch.2
  have Hle := Lib.hid hle
  clear hown hLL g1 hch
  obtain ⟨K, hK, hK2⟩ : ∃ K : Nat, a1 % ((N : Int) + 1) = (K : Int) ∧ K ≤ N := by
    have h1 := Int.emod_nonneg a1 (show ((N : Int) + 1) ≠ 0 by omega)
    have h2 := Int.emod_lt_of_pos a1 (show (0 : Int) < (N : Int) + 1 by omega)
    exact ⟨(a1 % ((N : Int) + 1)).toNat, by omega, by omega⟩
  obtain ⟨E, hE⟩ : ∃ E : Nat, a2 = (E : Int) := ⟨a2.toNat, by omega⟩
  subst hE
  obtain ⟨X, hX⟩ : ∃ X, memsB C (N : Int) = X := ⟨_, rfl⟩
  obtain ⟨Y, hY⟩ : ∃ Y, memsB C (K : Int) = Y := ⟨_, rfl⟩
  have HMX : Hid (X.length ≤ 8) := by show _ ≤ _; rw [← hX]; exact mems_len _ _
  have HMY : Hid (Y.length ≤ 8) := by show _ ≤ _; rw [← hY]; exact mems_len _ _
  have hbig : N ≤ 1099511627776 := by omega
  have HLK : Hid (∀ W, v1.grownBy W none → LogL W A K (C.take K)) := fun W hW => log_take (HL.out W hW) hK2
  have HMx : Hid (∀ W, v1.grownBy W none → Calls Try.prog 7 #[.slice A N c9, .int .i64 ((N : Int) + (E : Int))] W (IntsIs X W)) := fun W hW => by
    have h := pMembers_any A N c9 C ((N : Int) + (E : Int)) W (HL.out W hW) hbig
    rwa [mems_ext fun d => in_far HGd.out (e := (N : Int) + (E : Int)) (by rw [HN.out]; omega) d, HN.out, hX] at h
  have HMn : Hid (∀ W, v1.grownBy W none → Calls Try.prog 7 #[.slice A N c9, .int .i64 (N : Int)] W (IntsIs X W)) := fun W hW => by
    rw [← hX]; exact pMembers_any A N c9 C (N : Int) W (HL.out W hW) hbig
  have HMk : Hid (∀ W, v1.grownBy W none → Calls Try.prog 7 #[.slice A N c9, .int .i64 (K : Int)] W (IntsIs Y W)) := fun W hW => by
    rw [← hY]; exact pMembers_any A N c9 C (K : Int) W (HL.out W hW) hbig
  have HMt : Hid (∀ W, v1.grownBy W none → Calls Try.prog 7 #[.slice A K c9, .int .i64 (K : Int)] W (IntsIs Y W)) := fun W hW => by
    rw [← hY, mems_ext fun d => in_take HGd.out K d]; exact pMembers_any A K c9 (C.take K) (K : Int) W (HLK.out W hW) (by omega)
  have HMf : Hid (∀ W, v1.grownBy W none → Calls Try.prog 7 #[.slice A K c9, .int .i64 (N : Int)] W (IntsIs Y W)) := fun W hW => by
    have h := pMembers_any A K c9 (C.take K) (N : Int) W (HLK.out W hW) (by omega)
    rwa [mems_ext fun d => in_take_far HGd.out (k := K) (e := (N : Int)) (by omega) d, hY] at h
  have HT : Hid (IntKind.i64.wrap (E : Int) = (E : Int) ∧ IntKind.i64.wrap ((N : Int) + (E : Int)) = (N : Int) + (E : Int)) := ⟨by rw [IntKind.wrap_i64]; omega, by rw [IntKind.wrap_i64]; omega⟩
  obtain ⟨g, oo, rfl, _, _⟩ := (HL.out v1 (gb_refl _ _)).2 (by omega)
  have HCut : Hid (∀ W, (Instr.slice 22 (.slice (some ⟨g, oo, none⟩) N c9) none (some (.int .i64 (K : Int))) none).run Try.prog W = .ok (.slice (some ⟨g, oo, none⟩) K c9) W) := fun W => cut_log g oo N c9 K W (by have := Hle.out; omega)
  have t0 : IntKind.i64.wrap a1 = a1 := by rw [IntKind.wrap_i64]; omega
  have t1 : IntKind.i64.wrap ((N : Int) + 1) = (N : Int) + 1 := by rw [IntKind.wrap_i64]; omega
  have t2 : a1.tmod ((N : Int) + 1) = (K : Int) := by rw [Int.tmod_eq_emod_of_nonneg n1, hK]
  have t3 : ¬ ((N : Int) + 1) = 0 := by omega
  have t4 : IntKind.i64.wrap (K : Int) = (K : Int) := by rw [IntKind.wrap_i64]; omega
  clear hX hY hbig hK hK2 n1 n1' n2 n2' h1N hN40 hN hle
  go_upto_region 3 with fail
  clear t0 t1 t2 t3 t4
  apply wp_region_told (le := fun a b => a.grownBy b none) [isV _, isV _, isV _, isV _, isV _, isV _, intsV X, isV _, isV _, isV _, intsV X, isV _, isV _, isV _, isV _, intsV Y, isV _, isV _, isV _, isV _, intsV Y, isV _, isV _, isV _, isV _, isV _, isV _, isV _, isV _, intsV Y, isV _, isV _, intsV Y, isV _, isV _, isV _, isV _, isV _, isV _]
  case hn => rfl
  case hm => kernel_rfl
  case hB => kernel_rfl
  case ht => exact fun _ _ _ h k => gb_none h k
  case hw => exact gb_drew (gb_refl _ _)
  -- 0: more.go:13 move
  apply told_is
  · intro W f hW hE h0 K hK
    have e7 := h0 7 (by kernel_rfl)
    conv at e7 => rhs; whnf
    clear hE h0
    refine yes_of (want_free rfl) ?_
    go_simp; exact hK _ _ (gb_refl _ _) rfl
  -- 1: more.go:13 move
  apply told_is
  · intro W f hW hE h0 K hK
    have e7 := h0 7 (by kernel_rfl)
    conv at e7 => rhs; whnf
    clear hE h0
    refine yes_of (want_free rfl) ?_
    go_simp; exact hK _ _ (gb_refl _ _) rfl
  -- 2: more.go:13 call
  apply told_is
  · intro W f hW hE h0 K hK
    have e18 : f 18 = _ := hE 0 18 _ rfl (by kernel_rfl)
    clear hE h0
    refine yes_of (want_free rfl) ?_
    go_simp; exact hK _ _ (gb_refl _ _) rfl
  -- 3: more.go:13 move
  apply told_is
  · intro W f hW hE h0 K hK
    have e2 := h0 2 (by kernel_rfl)
    conv at e2 => rhs; whnf
    clear hE h0
    refine yes_of (want_free rfl) ?_
    go_simp; exact hK _ _ (gb_refl _ _) rfl
  -- 4: more.go:13 convert
  apply told_is
  · intro W f hW hE h0 K hK
    have e20 : f 20 = _ := hE 0 20 _ rfl (by kernel_rfl)
    clear hE h0
    refine yes_of (want_free rfl) ?_
    have q1 := HT.out.1
    go_simp; exact hK _ _ (gb_refl _ _) rfl
  -- 5: more.go:13 binOp
  apply told_is
  · intro W f hW hE h0 K hK
    have e19 : f 19 = _ := hE 2 19 _ rfl (by kernel_rfl)
    have e21 : f 21 = _ := hE 0 21 _ rfl (by kernel_rfl)
    clear hE h0
    refine yes_of (want_free rfl) ?_
    have q2 := HT.out.2
    go_simp; exact hK _ _ (gb_refl _ _) rfl
  -- 6: more.go:13 call
  apply told_at intsV_stays
  · intro W f hW hE h0 K hK
    have e17 : f 17 = _ := hE 5 17 _ rfl (by kernel_rfl)
    have e22 : f 22 = _ := hE 0 22 _ rfl (by kernel_rfl)
    clear hE h0
    refine yes_of (want_free rfl) ?_
    go_simp
    refine (HMx.out W hW).mono ?_
    rintro e w1' ⟨A', c', rfl, h1, g'⟩
    exact ⟨_, rfl, hK _ _ g' ⟨A', c', rfl, h1⟩⟩
  -- 7: more.go:13 move
  apply told_is
  · intro W f hW hE h0 K hK
    have e7 := h0 7 (by kernel_rfl)
    conv at e7 => rhs; whnf
    clear hE h0
    refine yes_of (want_free rfl) ?_
    go_simp; exact hK _ _ (gb_refl _ _) rfl
  -- 8: more.go:13 move
  apply told_is
  · intro W f hW hE h0 K hK
    have e7 := h0 7 (by kernel_rfl)
    conv at e7 => rhs; whnf
    clear hE h0
    refine yes_of (want_free rfl) ?_
    go_simp; exact hK _ _ (gb_refl _ _) rfl
  -- 9: more.go:13 call
  apply told_is
  · intro W f hW hE h0 K hK
    have e25 : f 25 = _ := hE 0 25 _ rfl (by kernel_rfl)
    clear hE h0
    refine yes_of (want_free rfl) ?_
    go_simp; exact hK _ _ (gb_refl _ _) rfl
  -- 10: more.go:13 call
  apply told_at intsV_stays
  · intro W f hW hE h0 K hK
    have e24 : f 24 = _ := hE 2 24 _ rfl (by kernel_rfl)
    have e26 : f 26 = _ := hE 0 26 _ rfl (by kernel_rfl)
    clear hE h0
    refine yes_of (want_free rfl) ?_
    go_simp
    refine (HMn.out W hW).mono ?_
    rintro e w1' ⟨A', c', rfl, h1, g'⟩
    exact ⟨_, rfl, hK _ _ g' ⟨A', c', rfl, h1⟩⟩
  -- 11: more.go:13 call
  apply told_is
  · intro W f hW hE h0 K hK
    have e23 := hE 4 23 _ rfl (by kernel_rfl)
    have e27 := hE 0 27 _ rfl (by kernel_rfl)
    clear hE h0
    refine yes_of (want_free rfl) ?_
    obtain ⟨A23, c23, e23, k23⟩ := e23
    obtain ⟨A27, c27, e27, k27⟩ := e27
    go_simp
    refine (ints_same A23 A27 c23 c27 X W k23 k27 HMX.out).mono ?_
    rintro e w1' ⟨rfl, g'⟩
    exact ⟨_, rfl, hK _ _ g' rfl⟩
  -- 12: more.go:13 move
  apply told_is
  · intro W f hW hE h0 K hK
    have e28 : f 28 = _ := hE 0 28 _ rfl (by kernel_rfl)
    clear hE h0
    refine yes_of (want_free rfl) ?_
    go_simp; exact hK _ _ (gb_refl _ _) rfl
  -- 13: more.go:13 move
  apply told_is
  · intro W f hW hE h0 K hK
    have e7 := h0 7 (by kernel_rfl)
    conv at e7 => rhs; whnf
    have e29 : f 29 = _ := hE 0 29 _ rfl (by kernel_rfl)
    clear hE h0
    refine yes_of (want_yes rfl rfl e29) ?_
    go_simp; exact hK _ _ (gb_refl _ _) rfl
  -- 14: more.go:13 move
  apply told_is
  · intro W f hW hE h0 K hK
    have e8 := h0 8 (by kernel_rfl)
    conv at e8 => rhs; whnf
    have e29 : f 29 = _ := hE 1 29 _ rfl (by kernel_rfl)
    clear hE h0
    refine yes_of (want_yes rfl rfl e29) ?_
    go_simp; exact hK _ _ (gb_refl _ _) rfl
  -- 15: more.go:13 call
  apply told_at intsV_stays
  · intro W f hW hE h0 K hK
    have e30 : f 30 = _ := hE 1 30 _ rfl (by kernel_rfl)
    have e31 : f 31 = _ := hE 0 31 _ rfl (by kernel_rfl)
    have e29 : f 29 = _ := hE 2 29 _ rfl (by kernel_rfl)
    clear hE h0
    refine yes_of (want_yes rfl rfl e29) ?_
    go_simp
    refine (HMk.out W hW).mono ?_
    rintro e w1' ⟨A', c', rfl, h1, g'⟩
    exact ⟨_, rfl, hK _ _ g' ⟨A', c', rfl, h1⟩⟩
  -- 16: more.go:13 move
  apply told_is
  · intro W f hW hE h0 K hK
    have e7 := h0 7 (by kernel_rfl)
    conv at e7 => rhs; whnf
    have e29 : f 29 = _ := hE 3 29 _ rfl (by kernel_rfl)
    clear hE h0
    refine yes_of (want_yes rfl rfl e29) ?_
    go_simp; exact hK _ _ (gb_refl _ _) rfl
  -- 17: more.go:13 move
  apply told_is
  · intro W f hW hE h0 K hK
    have e8 := h0 8 (by kernel_rfl)
    conv at e8 => rhs; whnf
    have e29 : f 29 = _ := hE 4 29 _ rfl (by kernel_rfl)
    clear hE h0
    refine yes_of (want_yes rfl rfl e29) ?_
    go_simp; exact hK _ _ (gb_refl _ _) rfl
  -- 18: more.go:13 slice
  apply told_is
  · intro W f hW hE h0 K hK
    have e33 : f 33 = _ := hE 1 33 _ rfl (by kernel_rfl)
    have e34 : f 34 = _ := hE 0 34 _ rfl (by kernel_rfl)
    have e29 : f 29 = _ := hE 5 29 _ rfl (by kernel_rfl)
    clear hE h0
    refine yes_of (want_yes rfl rfl e29) ?_
    have q3 := HCut.out W
    go_simp; exact hK _ _ (gb_refl _ _) rfl
  -- 19: more.go:13 move
  apply told_is
  · intro W f hW hE h0 K hK
    have e8 := h0 8 (by kernel_rfl)
    conv at e8 => rhs; whnf
    have e29 : f 29 = _ := hE 6 29 _ rfl (by kernel_rfl)
    clear hE h0
    refine yes_of (want_yes rfl rfl e29) ?_
    go_simp; exact hK _ _ (gb_refl _ _) rfl
  -- 20: more.go:13 call
  apply told_at intsV_stays
  · intro W f hW hE h0 K hK
    have e35 : f 35 = _ := hE 1 35 _ rfl (by kernel_rfl)
    have e36 : f 36 = _ := hE 0 36 _ rfl (by kernel_rfl)
    have e29 : f 29 = _ := hE 7 29 _ rfl (by kernel_rfl)
    clear hE h0
    refine yes_of (want_yes rfl rfl e29) ?_
    go_simp
    refine (HMt.out W hW).mono ?_
    rintro e w1' ⟨A', c', rfl, h1, g'⟩
    exact ⟨_, rfl, hK _ _ g' ⟨A', c', rfl, h1⟩⟩
  -- 21: more.go:13 call
  apply told_is
  · intro W f hW hE h0 K hK
    have e32 := hE 5 32 _ rfl (by kernel_rfl)
    have e37 := hE 0 37 _ rfl (by kernel_rfl)
    have e29 : f 29 = _ := hE 8 29 _ rfl (by kernel_rfl)
    clear hE h0
    refine yes_of (want_yes rfl rfl e29) ?_
    obtain ⟨A32, c32, e32, k32⟩ := e32
    obtain ⟨A37, c37, e37, k37⟩ := e37
    go_simp
    refine (ints_same A32 A37 c32 c37 Y W k32 k37 HMY.out).mono ?_
    rintro e w1' ⟨rfl, g'⟩
    exact ⟨_, rfl, hK _ _ g' rfl⟩
  -- 22: more.go:13 pick
  apply told_is
  · intro W f hW hE h0 K hK
    have e29 : f 29 = _ := hE 9 29 _ rfl (by kernel_rfl)
    have e38 : f 38 = _ := hE 0 38 _ rfl (by kernel_rfl)
    clear hE h0
    refine yes_of (want_free rfl) ?_
    go_simp; exact hK _ _ (gb_refl _ _) rfl
  -- 23: more.go:13 move
  apply told_is
  · intro W f hW hE h0 K hK
    have e39 : f 39 = _ := hE 0 39 _ rfl (by kernel_rfl)
    clear hE h0
    refine yes_of (want_free rfl) ?_
    go_simp; exact hK _ _ (gb_refl _ _) rfl
  -- 24: more.go:13 move
  apply told_is
  · intro W f hW hE h0 K hK
    have e7 := h0 7 (by kernel_rfl)
    conv at e7 => rhs; whnf
    have e40 : f 40 = _ := hE 0 40 _ rfl (by kernel_rfl)
    clear hE h0
    refine yes_of (want_yes rfl rfl e40) ?_
    go_simp; exact hK _ _ (gb_refl _ _) rfl
  -- 25: more.go:13 move
  apply told_is
  · intro W f hW hE h0 K hK
    have e8 := h0 8 (by kernel_rfl)
    conv at e8 => rhs; whnf
    have e40 : f 40 = _ := hE 1 40 _ rfl (by kernel_rfl)
    clear hE h0
    refine yes_of (want_yes rfl rfl e40) ?_
    go_simp; exact hK _ _ (gb_refl _ _) rfl
  -- 26: more.go:13 slice
  apply told_is
  · intro W f hW hE h0 K hK
    have e41 : f 41 = _ := hE 1 41 _ rfl (by kernel_rfl)
    have e42 : f 42 = _ := hE 0 42 _ rfl (by kernel_rfl)
    have e40 : f 40 = _ := hE 2 40 _ rfl (by kernel_rfl)
    clear hE h0
    refine yes_of (want_yes rfl rfl e40) ?_
    have q3 := HCut.out W
    go_simp; exact hK _ _ (gb_refl _ _) rfl
  -- 27: more.go:13 move
  apply told_is
  · intro W f hW hE h0 K hK
    have e7 := h0 7 (by kernel_rfl)
    conv at e7 => rhs; whnf
    have e40 : f 40 = _ := hE 3 40 _ rfl (by kernel_rfl)
    clear hE h0
    refine yes_of (want_yes rfl rfl e40) ?_
    go_simp; exact hK _ _ (gb_refl _ _) rfl
  -- 28: more.go:13 call
  apply told_is
  · intro W f hW hE h0 K hK
    have e44 : f 44 = _ := hE 0 44 _ rfl (by kernel_rfl)
    have e40 : f 40 = _ := hE 4 40 _ rfl (by kernel_rfl)
    clear hE h0
    refine yes_of (want_yes rfl rfl e40) ?_
    go_simp; exact hK _ _ (gb_refl _ _) rfl
  -- 29: more.go:13 call
  apply told_at intsV_stays
  · intro W f hW hE h0 K hK
    have e43 : f 43 = _ := hE 2 43 _ rfl (by kernel_rfl)
    have e45 : f 45 = _ := hE 0 45 _ rfl (by kernel_rfl)
    have e40 : f 40 = _ := hE 5 40 _ rfl (by kernel_rfl)
    clear hE h0
    refine yes_of (want_yes rfl rfl e40) ?_
    go_simp
    refine (HMf.out W hW).mono ?_
    rintro e w1' ⟨A', c', rfl, h1, g'⟩
    exact ⟨_, rfl, hK _ _ g' ⟨A', c', rfl, h1⟩⟩
  -- 30: more.go:13 move
  apply told_is
  · intro W f hW hE h0 K hK
    have e7 := h0 7 (by kernel_rfl)
    conv at e7 => rhs; whnf
    have e40 : f 40 = _ := hE 6 40 _ rfl (by kernel_rfl)
    clear hE h0
    refine yes_of (want_yes rfl rfl e40) ?_
    go_simp; exact hK _ _ (gb_refl _ _) rfl
  -- 31: more.go:13 move
  apply told_is
  · intro W f hW hE h0 K hK
    have e8 := h0 8 (by kernel_rfl)
    conv at e8 => rhs; whnf
    have e40 : f 40 = _ := hE 7 40 _ rfl (by kernel_rfl)
    clear hE h0
    refine yes_of (want_yes rfl rfl e40) ?_
    go_simp; exact hK _ _ (gb_refl _ _) rfl
  -- 32: more.go:13 call
  apply told_at intsV_stays
  · intro W f hW hE h0 K hK
    have e47 : f 47 = _ := hE 1 47 _ rfl (by kernel_rfl)
    have e48 : f 48 = _ := hE 0 48 _ rfl (by kernel_rfl)
    have e40 : f 40 = _ := hE 8 40 _ rfl (by kernel_rfl)
    clear hE h0
    refine yes_of (want_yes rfl rfl e40) ?_
    go_simp
    refine (HMk.out W hW).mono ?_
    rintro e w1' ⟨A', c', rfl, h1, g'⟩
    exact ⟨_, rfl, hK _ _ g' ⟨A', c', rfl, h1⟩⟩
  -- 33: more.go:13 call
  apply told_is
  · intro W f hW hE h0 K hK
    have e46 := hE 3 46 _ rfl (by kernel_rfl)
    have e49 := hE 0 49 _ rfl (by kernel_rfl)
    have e40 : f 40 = _ := hE 9 40 _ rfl (by kernel_rfl)
    clear hE h0
    refine yes_of (want_yes rfl rfl e40) ?_
    obtain ⟨A46, c46, e46, k46⟩ := e46
    obtain ⟨A49, c49, e49, k49⟩ := e49
    go_simp
    refine (ints_same A46 A49 c46 c49 Y W k46 k49 HMY.out).mono ?_
    rintro e w1' ⟨rfl, g'⟩
    exact ⟨_, rfl, hK _ _ g' rfl⟩
  -- 34: more.go:13 pick
  apply told_is
  · intro W f hW hE h0 K hK
    have e40 : f 40 = _ := hE 10 40 _ rfl (by kernel_rfl)
    have e50 : f 50 = _ := hE 0 50 _ rfl (by kernel_rfl)
    clear hE h0
    refine yes_of (want_free rfl) ?_
    go_simp; exact hK _ _ (gb_refl _ _) rfl
  -- 35: more.go:13 move
  apply told_is
  · intro W f hW hE h0 K hK
    have e51 : f 51 = _ := hE 0 51 _ rfl (by kernel_rfl)
    clear hE h0
    refine yes_of (want_free rfl) ?_
    go_simp; exact hK _ _ (gb_refl _ _) rfl
  -- 36: more.go:13 call
  apply told_is
  · intro W f hW hE h0 K hK
    have e52 : f 52 = _ := hE 0 52 _ rfl (by kernel_rfl)
    clear hE h0
    refine yes_of (want_yes rfl rfl e52) ?_
    go_simp
    refine (awake16_any W).mono ?_
    rintro e w1' ⟨rfl, g'⟩
    exact ⟨_, rfl, hK _ _ g' rfl⟩
  -- 37: more.go:13 pick
  apply told_is
  · intro W f hW hE h0 K hK
    have e52 : f 52 = _ := hE 1 52 _ rfl (by kernel_rfl)
    have e53 : f 53 = _ := hE 0 53 _ rfl (by kernel_rfl)
    clear hE h0
    refine yes_of (want_free rfl) ?_
    go_simp; exact hK _ _ (gb_refl _ _) rfl
  -- 38: more.go:13 assign
  apply told_is
  · intro W f hW hE h0 K hK
    have e54 : f 54 = _ := hE 0 54 _ rfl (by kernel_rfl)
    clear hE h0
    refine yes_of (want_free rfl) ?_
    go_simp; exact hK _ _ (gb_refl _ _) rfl
  intro W f hW hA
  simp only [lexIn, Act.put, List.setIfInBounds_toArray, List.set_cons_zero, List.set_cons_succ]
  have e6 : f 6 = _ := hA 0 (some 6) _ rfl
  rw [e6]
  clear hA
  go_wp2_with fail
  go_ret
  exact ⟨rfl, gb_below (gb_none HG1.out hW) (Nat.le_refl _)⟩

set_option maxRecDepth 100000 in
theorem lifted (os : Os) (started : os.Started) (H : Type) (enc : TypeId × Value → H) :
    ReturnsInHanded {} Try.checked os 5 .any (Rows.rosterLaterSpec.pre6 enc Try.prog Try.f5 Rows.rosterLaterRow.domain false) (Rows.rosterLaterSpec.post enc Try.prog Try.f5 false true false false) := by
  refine returnsInHanded_of_change (C := Try.checked) own started (by kernel_rfl) Try.func5
    (ChangeSpec.witness6 (enc := enc) (C := Try.checked) false ⟨#[], #[.slice none 0 0, .int .u8 0, .int .u16 0], []⟩ 8 (by kernel_rfl) (by kernel_rfl) (by kernel_rfl) (by kernel_rfl)) ?_
  intro W base args ds gs before hval0 hW hcnd _
  have hval : ∀ (j : Nat) t v, Try.f5.params[j]? = some t → args[j]? = some v → Value.okWide Try.prog W .any base t v := hval0
  have hW' := hW
  obtain ⟨p, q, hA0, hV, rfl, hfz, hnd⟩ := hW
  have hA : DataW.TrodAll enc Try.prog W 0 (fun _ => true) true Try.f5.params.toList args.toList ds p := hA0
  rw [Try.params5] at hA hval
  obtain ⟨v0, vs0, d0, ds0, p0, q0, hargs, rfl, rfl, h0, r0⟩ := trodAll_cons hA
  obtain ⟨v1, vs1, d1, ds1, p1, q1, rfl, rfl, rfl, h1, r1⟩ := trodAll_cons r0
  obtain ⟨v2, vs2, d2, ds2, p2, q2, rfl, rfl, rfl, h2, r2⟩ := trodAll_cons r1
  obtain ⟨rfl, rfl, rfl⟩ := trodAll_nil r2
  obtain rfl : args = #[v0, v1, v2] := by cases args; simp_all
  obtain ⟨rfl, rfl⟩ := trodVars_none hV
  have k0 := h0
  have lt0 : ∀ x ∈ p0, x.block < W.heap.size := by obtain ⟨m, hm⟩ := k0; exact DataW.trod_lt m _ _ _ hm
  obtain ⟨a0, len0, cap0, rfl⟩ := okWide_slice Try.underlying28 (hval 0 28 v0 rfl rfl)
  obtain ⟨z0, w0⟩ : ∃ zs, IsRow .u8 W a0 len0 cap0 zs := by
    obtain ⟨fuel, hf⟩ := h0
    rcases open_ints Try.underlying28 Try.underlying5 (by kernel_rfl) hf with ⟨hcs, _⟩ | ⟨x, l, c, zs, hcs, _, hl, hm, hz, _, hcell, hwz⟩
    · simp [Value.cells] at hcs
      obtain ⟨rfl, rfl, rfl⟩ := hcs
      exact ⟨[], .inl ⟨rfl, rfl, rfl, rfl⟩⟩
    · simp [Value.cells] at hcs
      obtain ⟨rfl, rfl, rfl⟩ := hcs
      exact ⟨zs, .inr ⟨_, rfl, hl, hm, by simpa using hz, hcell, hwz⟩⟩
  obtain ⟨a1, rfl, rfl, rfl, w1⟩ := open_int Try.underlying5 (hval 1 5 v1 rfl rfl) h1
  obtain ⟨a2, rfl, rfl, rfl, w2⟩ := open_int Try.underlying34 (hval 2 34 v2 rfl rfl) h2
  clear hA0 hval0
  refine (walk a0 len0 cap0 z0 a1 a2 W w0 w1 w2).mono fun e W' ⟨he, bel⟩ => ?_
  subst he
  exact ⟨_, rfl, _, _, _, [], _, [], hW', trodAll_mk1 (shut_bool Try.underlying4 _), (trodAll_cons_mk (Below.trod laidOut (by kernel_rfl) (of_decide_eq_true (by kernel_rfl)) k0 bel lt0) (trodAll_cons_mk (shut_int Try.underlying5 w1) (trodAll_cons_mk (shut_int Try.underlying34 w2) trodAll_mk0))), rfl, bel.frame _, fun h => by cases h⟩

theorem over : Rows.rosterLaterRow.holds Try.pinned (OpenSpec.ofChange Rows.rosterLaterSpec) :=
  OpenClaim.holds_of_wide 5 Try.f5 rfl rfl rfl rfl rfl rfl rfl ⟨rfl, rfl, rfl, rfl, rfl⟩ rfl rfl rfl rfl rfl (by kernel_rfl) Try.func5 (by kernel_rfl)
    (of_decide_eq_true (by kernel_rfl)) (by unfold Func.isWrapper; first | (rw [if_pos (by decide +kernel)]; kernel_rfl) | (rw [if_neg (by decide +kernel)]; exact ⟨rfl, rfl⟩))
    (fun os started H enc _ => lifted os started H enc)

theorem proved : Rows.RosterLaterSaid := over
#print axioms proved
end Go.Proofs.Ytaecfcodldbnhaa.rosterLater
