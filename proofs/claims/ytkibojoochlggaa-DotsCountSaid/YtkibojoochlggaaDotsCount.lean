/-
  Proved: whatever values of its parameters' types it is called with, deaddroplaw7.DotsCount returns true, and each argument reads behind the call as it read before.
  Conditions: none but those of the row itself.
  (The frame round the walk was written by the kit's proof-skeleton.mjs.)
-/
import Derived.Test.YtkibojoochlggaaRows
import Derived.WalkKit
import Derived.ProofKit
import Derived.OpenShut
import Derived.ShutString
import Derived.Test.YtkibojoochlggaaDtCount
import Derived.ChangeOld
import Derived.Below
namespace Go.Proofs.Ytkibojoochlggaa.dotsCount
open Go.ChangeShapes Go.WideShapes Go.ChangeAt Go.RowKit
open Go.ChangeMaps (open_string shut_string)
open Go.Proofs.Ytkibojoochlggaa.Mm Go.Proofs.Ytkibojoochlggaa.Dt
set_option linter.unusedVariables false

theorem own : ownKnob Try.prog.godebug = none := by kernel_rfl
theorem laidOut : laidOutB Try.prog = true := by kernel_rfl

/-- WHAT THE WALK IS TOLD OF A SLICE OF INTEGERS THAT CAME IN: it is nil; or it leads to a row of 'cap' cells, the numbers 'zs' (the first 'len' are its elements, the rest its spare room), each fitting its kind. -/
def IsRow (k : IntKind) (w : World) (a : Option Addr) (len cap : Nat) (zs : List Int) : Prop :=
  (a = none ∧ len = 0 ∧ cap = 0 ∧ zs = []) ∨
  ∃ x, a = some x ∧ len ≤ cap ∧ cap ≤ maxLen ∧ zs.length = cap ∧ (∀ i, i < zs.length → w.cell? (x.add i) = some (.int k (zs.getD i 0))) ∧ ∀ n ∈ zs, (Lit.int k n).wf = true

open Go.Proofs.Ytkibojoochlggaa.Td
attribute [local go_sem] upon_value upon_skip upon_enter upon_row look_tmp look_const look_func look_global

set_option maxHeartbeats 40000000 in
set_option maxRecDepth 100000 in
theorem walk (a0 : Option Addr) (len0 cap0 : Nat) (z0 : List Int) (w : World) (w0 : IsRow .u8 w a0 len0 cap0 z0) :
    Calls Try.prog 7 #[.slice a0 len0 cap0] w fun e w' => e = .returned (.bool true) ∧ Below w.heap.size w w' := by
  obtain ⟨n0, hl0, _⟩ := nl_of_row w0
  clear w0
  generalize z0.take len0 = b0 at *
  by_cases hh0 : 100 < len0
  · have t0 : decide ((100 : Int) < (len0 : Int)) = true := decide_eq_true (by omega)
    have s0 : decide (100 < len0) = true := decide_eq_true hh0
    go_enter Try.func7, Try.ntmps7
    go_wp2_with (go_at_call 9; refine (awake_any _).mono ?_; rintro e y ⟨rfl, gy⟩)
    go_ret
    exact ⟨rfl, gb_below gy (Nat.le_refl _)⟩
  · have t0 : decide ((100 : Int) < (len0 : Int)) = false := decide_eq_false (by omega)
    have s0 : decide (100 < len0) = false := decide_eq_false hh0
    obtain ⟨l, Hl⟩ : ∃ l, Hid (ofR [] (dotsN b0) = l) := ⟨_, rfl⟩
    obtain ⟨Ll, HLl⟩ : ∃ L, Hid (l.length = L) := ⟨_, rfl⟩
    have Ml : Hid (May l) := by show May l; rw [← Hl.out]; exact of_may _
    have bl : Ll ≤ len0 := by have h := set_len b0; rw [Hl.out, n0.1, HLl.out] at h; exact h
    have Hs : Hid (Small l) := by show Small l; rw [← Hl.out]; exact set_small b0 n0.2.2
    have HLd : Hid ((dotsN b0).length = len0) := by show _ = _; unfold dotsN; rw [List.length_map]; exact n0.1
    have hmk := fun W => make_table W
    have G := gb_refl w none
    go_enter Try.func7, Try.ntmps7
    go_upto_region 4 with (first
      | (go_at_call 25; (with_reducible refine (list_any a0 len0 cap0 b0 _ n0 (by omega)).mono ?_); rintro e y ⟨A_d, c_d, he, r_d, gy⟩; rw [HLd.out] at he r_d; subst he; replace n0 := n0.keep gy; replace G := gb_none G gy; clear gy)
      | (go_at_call 13; (with_reducible refine (pOf_any A_d len0 c_d (dotsN b0) _ r_d (by omega)).mono ?_); rintro e y hR; rw [Hl.out] at hR; obtain ⟨A_l, c_l, rfl, r_l, h_l, gy⟩ := hR.n HLl.out; replace n0 := n0.keep gy; replace r_d := r_d.keep gy; replace G := gb_none G gy; clear gy)
      )
    clear r_d
    go_wp2_with fail
    clear hmk
    obtain ⟨Y, rfl⟩ : ∃ Y, Y = y := ⟨_, rfl⟩
    have Hn0 := Lib.hid n0
    have Hr := Lib.hid r_l
    have HG := Lib.hid G
    have hr4 : Row (Y.alloc (.cells (tb []) 4)) Y.heap.size 4 (tb (ofR [] (dotsN (b0.take 0)))) := Row.new _ _ _
    have hg4 : Y.grownBy (Y.alloc (.cells (tb []) 4)) none := gb_alloc (gb_refl _ _) _
    obtain ⟨GI, hGI⟩ : ∃ GI, Y.heap.size = GI := ⟨_, rfl⟩
    have HGI := Lib.hid hGI
    rw [hGI] at hr4 ⊢
    clear n0 r_l G hGI
    go_loopw [5] (fun i wr => ∃ k : Nat, k ≤ len0 ∧ i = .int .i64 k ∧ Row wr GI 4 (tb (ofR [] (dotsN (b0.take k)))) ∧ Y.grownBy wr none) (fun i _ => len0 - (intOf i).toNat)
    case atStart => exact ⟨0, Nat.zero_le _, rfl, hr4, hg4⟩
    case round =>
      clear hr4 hg4
      obtain ⟨k, hk, rfl, hr, hg⟩ := hrel
      by_cases hlt : k < len0
      · have d1 : decide (k < len0) = true := decide_eq_true hlt
        have d2 : decide ((k : Int) < (len0 : Int)) = true := decide_eq_true (by omega)
        have bk : (k : Int) < (len0 : Int) := by omega
        have hNL := Hn0.out.keep hg
        obtain ⟨g, o, rfl, hgl, hcc⟩ := hNL.2.1 (by omega)
        obtain ⟨b, hb⟩ : ∃ b, b0[k]? = some b := ⟨_, List.getElem?_eq_getElem (by rw [hNL.1]; exact hlt)⟩
        have c0 := hcc k b hb
        obtain ⟨q0, q1⟩ := hNL.2.2 b (List.mem_of_getElem? hb)
        obtain ⟨J, hJ⟩ : ∃ J : Nat, (J : Int) = b % 4 * 22 + 1 + b / 4 % 20 := ⟨(b % 4 * 22 + 1 + b / 4 % 20).toNat, by omega⟩
        have hJ88 : (J : Int) < 88 := by omega
        have v1 : IntKind.i64.wrap b = b := by rw [IntKind.wrap_i64]; omega
        have v2 : b.tmod 4 = b % 4 := by rw [Int.tmod_eq_emod_of_nonneg q0]
        have v3 : IntKind.i64.wrap (b % 4 * 22) = b % 4 * 22 := by rw [IntKind.wrap_i64]; omega
        have v4 : IntKind.i64.wrap (b % 4 * 22 + 1) = b % 4 * 22 + 1 := by rw [IntKind.wrap_i64]; omega
        have v5 : b.tdiv 4 = b / 4 := by rw [Int.tdiv_eq_ediv_of_nonneg q0]
        have v6 : IntKind.i64.wrap (b / 4) = b / 4 := by rw [IntKind.wrap_i64]; omega
        have v7 : (b / 4).tmod 20 = b / 4 % 20 := by rw [Int.tmod_eq_emod_of_nonneg (by omega)]
        have v8 : IntKind.i64.wrap (b % 4 * 22 + 1 + b / 4 % 20) = (J : Int) := by rw [hJ, IntKind.wrap_i64]; omega
        have v9 : IntKind.i64.wrap (b % 4) = b % 4 := by rw [IntKind.wrap_i64]; omega
        have v10 : IntKind.i64.wrap (b / 4 % 20) = b / 4 % 20 := by rw [IntKind.wrap_i64]; omega
        have fz := hr.free J
        have cT : ∃ v, wr.cell? ⟨GI, J, none⟩ = some v := ⟨_, hr.at_ (tb_at _ J (by omega))⟩
        obtain ⟨v, cT⟩ := cT
        have Hset : Hid (∀ q, Row ((wr.drewN q).setCell ⟨GI, J, none⟩ (.bool true)) GI 4 (tb (ofR [] (dotsN (b0.take (k + 1)))))) := fun q => by
          rw [← tb_more hb hJ]
          exact Row.set_ (w := wr.drewN q) hr J (.bool true)
        have Hgs : Hid (∀ q, Y.grownBy ((wr.drewN q).setCell ⟨GI, J, none⟩ (.bool true)) none) := fun q => gb_new (gb_drewN hg q) (gb_set1 _ _ _ _) (by rw [HGI.out]; exact Nat.le_refl _)
        clear hNL hcc hb hJ q0 q1 hr hg
        go_upto_region 8 with fail
        refine wp_region_quiet_tail 18 (by kernel_rfl) (by kernel_rfl) ?_
        simp only [List.take_succ_cons, List.take_zero, List.drop_succ_cons, List.drop_zero]
        iterate 18 (go_big_quiet_step (fail))
        refine wpQuiet_nil ?_
        go_wp2_with fail
        go_roundw
        case rel => exact ⟨k + 1, by omega, by go_num, Hset.out 1, Hgs.out 1⟩
        case measure => simp [intOf]; omega
      · have hkn : k = len0 := by omega
        subst hkn
        have d1 : decide (k < k) = false := by simp
        have d2 : decide ((k : Int) < (k : Int)) = false := by simp
        have hNL := Hn0.out.keep hg
        rw [List.take_of_length_le (by rw [hNL.1]; exact Nat.le_refl _), Hl.out] at hr
        have HRow : Hid (∀ W, wr.grownBy W none → Row W GI 4 (tb l)) := fun W hW => hr.kept hW (by simp)
        have HRL : Hid (∀ W, wr.grownBy W none → RL W A_l Ll l) := fun W hW => Hr.out.keep (gb_none hg hW)
        have HGw : Hid (w.grownBy wr none) := gb_none HG.out hg
        clear hNL hr hg hlt Hr Hn0
        go_wp2_with fail
        clear d1 d2
        obtain ⟨W5, rfl⟩ : ∃ W5, W5 = wr := ⟨_, rfl⟩
        go_loopw [8, 6, 7] (fun i nv ev wr => ∃ d : Nat, d ≤ 4 ∧ i = .int .i64 d ∧ nv = .int .i64 ((cntN l (20 * d) : Nat) : Int) ∧ ev = .int .i64 ((endN l (20 * d) : Nat) : Int) ∧ W5.grownBy wr none) (fun i _ _ _ => 4 - (intOf i).toNat)
        case atStart => exact ⟨0, by omega, rfl, rfl, rfl, gb_refl _ _⟩
        case round =>
          obtain ⟨d, hd, rfl, rfl, rfl, hg⟩ := hrel
          by_cases hd4 : d < 4
          · have d1 : decide ((d : Int) < 4) = true := decide_eq_true (by omega)
            have d2 : decide (d < 4) = true := decide_eq_true hd4
            have Hg0 := Lib.hid hg
            clear hg
            go_wp2_with fail
            clear d1 d2
            go_loopw [9, 6, 7] (fun i nv ev wr => ∃ k : Nat, k ≤ 20 ∧ i = .int .i64 ((k : Int) + 1) ∧ nv = .int .i64 ((cntN l (20 * d + k) : Nat) : Int) ∧ ev = .int .i64 ((endN l (20 * d + k) : Nat) : Int) ∧ W5.grownBy wr none) (fun i _ _ _ => 21 - (intOf i).toNat)
            case atStart => exact ⟨0, by omega, rfl, rfl, rfl, Hg0.out⟩
            case round =>
              clear Hg0
              obtain ⟨k, hk, rfl, rfl, rfl, hg⟩ := hrel
              by_cases hk20 : k < 20
              · have d1 : decide ((k : Int) + 1 ≤ 20) = true := decide_eq_true (by omega)
                have d2 : decide (k + 1 ≤ 20) = true := decide_eq_true (by omega)
                obtain ⟨x, hx⟩ : ∃ x, hasB l (d : Int) ((k : Int) + 1) = x := ⟨_, rfl⟩
                obtain ⟨z, hz⟩ : ∃ z, hasB l (d : Int) (k : Int) = z := ⟨_, rfl⟩
                obtain ⟨P, J, K, hP, hJ, hK1, hJ88, hK88, bJ, bK, qJ, rJ, qK, rK, v1, v2, v3, _, _, _⟩ := idx hd4 hk20
                have cJ : (tb l)[J]? = some (.bool x) := by rw [tb_at _ J bJ, ← hx, qJ, rJ]
                have cK : (tb l)[K]? = some (.bool z) := by rw [tb_at _ K bK, ← hz, qK, rK]
                clear bJ bK qJ rJ qK rK
                have HcJ := Lib.hid cJ
                have HcK := Lib.hid cK
                have Hx := Lib.hid hx
                have Hg := Lib.hid hg
                have HN := cntN_step hk20 hx
                have HE := endN_step hk20 hx hz
                have bN := cnt_b l hd4 hk20
                have bE := end_b l hd4 hk20
                obtain ⟨N, eN⟩ : ∃ N, cntN l (20 * d + k) = N := ⟨_, rfl⟩
                obtain ⟨E, eE⟩ : ∃ E, endN l (20 * d + k) = E := ⟨_, rfl⟩
                rw [eN] at HN bN ⊢
                rw [eE] at HE bE ⊢
                have HN2 := Lib.hid HN
                have HE2 := Lib.hid HE
                clear cJ cK hx hz hg eN eE HN HE
                go_upto_region 16 with fail
                apply wp_region_told (le := fun a b => a.grownBy b none) [isV _, isV _, isV _, isV _, isV _, isV _, isV _, isV _, isV _, isV _, isV _, isV _, isV (.bool false)]
                case hn => rfl
                case hm => kernel_rfl
                case hB => kernel_rfl
                case ht => exact fun _ _ _ h k => gb_none h k
                case hw => exact gb_drew (gb_refl _ _)
                -- 0: more.go:22 move
                apply told_is
                · intro W f hW hE h0 K hK
                  have e4 := h0 4 (by kernel_rfl)
                  conv at e4 => rhs; whnf
                  clear hE h0
                  refine yes_of (want_free rfl) ?_
                  go_simp; exact hK _ _ (gb_refl _ _) rfl
                -- 1: more.go:22 move
                apply told_is
                · intro W f hW hE h0 K hK
                  have e8 := h0 8 (by kernel_rfl)
                  conv at e8 => rhs; whnf
                  clear hE h0
                  refine yes_of (want_free rfl) ?_
                  go_simp; exact hK _ _ (gb_refl _ _) rfl
                -- 2: more.go:22 binOp
                apply told_is
                · intro W f hW hE h0 K hK
                  have e52 : f 52 = _ := hE 0 52 _ rfl (by kernel_rfl)
                  clear hE h0
                  refine yes_of (want_free rfl) ?_
                  go_simp; exact hK _ _ (gb_refl _ _) rfl
                -- 3: more.go:22 move
                apply told_is
                · intro W f hW hE h0 K hK
                  have e9 := h0 9 (by kernel_rfl)
                  conv at e9 => rhs; whnf
                  clear hE h0
                  refine yes_of (want_free rfl) ?_
                  go_simp; exact hK _ _ (gb_refl _ _) rfl
                -- 4: more.go:22 binOp
                apply told_is
                · intro W f hW hE h0 K hK
                  have e53 : f 53 = _ := hE 1 53 _ rfl (by kernel_rfl)
                  have e54 : f 54 = _ := hE 0 54 _ rfl (by kernel_rfl)
                  clear hE h0
                  refine yes_of (want_free rfl) ?_
                  go_simp; exact hK _ _ (gb_refl _ _) rfl
                -- 5: more.go:22 indexAddr
                apply told_is
                · intro W f hW hE h0 K hK
                  have e51 : f 51 = _ := hE 4 51 _ rfl (by kernel_rfl)
                  have e55 : f 55 = _ := hE 0 55 _ rfl (by kernel_rfl)
                  clear hE h0
                  refine yes_of (want_free rfl) ?_
                  go_simp; exact hK _ _ (gb_refl _ _) rfl
                -- 6: more.go:22 load
                apply told_is
                · intro W f hW hE h0 K hK
                  have e56 : f 56 = _ := hE 0 56 _ rfl (by kernel_rfl)
                  clear hE h0
                  refine yes_of (want_free rfl) ?_
                  have hc := (HRow.out W (gb_none Hg.out hW)).at_ HcJ.out
                  go_simp; exact hK _ _ (gb_refl _ _) rfl
                -- 7: more.go:22 move
                apply told_is
                · intro W f hW hE h0 K hK
                  have e3 := h0 3 (by kernel_rfl)
                  conv at e3 => rhs; whnf
                  clear hE h0
                  refine yes_of (want_free rfl) ?_
                  go_simp; exact hK _ _ (gb_refl _ _) rfl
                -- 8: more.go:22 move
                apply told_is
                · intro W f hW hE h0 K hK
                  have e8 := h0 8 (by kernel_rfl)
                  conv at e8 => rhs; whnf
                  clear hE h0
                  refine yes_of (want_free rfl) ?_
                  go_simp; exact hK _ _ (gb_refl _ _) rfl
                -- 9: more.go:22 move
                apply told_is
                · intro W f hW hE h0 K hK
                  have e9 := h0 9 (by kernel_rfl)
                  conv at e9 => rhs; whnf
                  clear hE h0
                  refine yes_of (want_free rfl) ?_
                  go_simp; exact hK _ _ (gb_refl _ _) rfl
                -- 10: more.go:22 build
                apply told_is
                · intro W f hW hE h0 K hK
                  have e59 : f 59 = _ := hE 1 59 _ rfl (by kernel_rfl)
                  have e60 : f 60 = _ := hE 0 60 _ rfl (by kernel_rfl)
                  clear hE h0
                  refine yes_of (want_free rfl) ?_
                  go_simp; exact hK _ _ (gb_refl _ _) rfl
                -- 11: more.go:22 call
                apply told_is
                · intro W f hW hE h0 K hK
                  have e58 : f 58 = _ := hE 3 58 _ rfl (by kernel_rfl)
                  have e61 : f 61 = _ := hE 0 61 _ rfl (by kernel_rfl)
                  clear hE h0
                  refine yes_of (want_free rfl) ?_
                  go_simp
                  refine (pHas_any A_l Ll c_l l (d : Int) ((k : Int) + 1) _ (HRL.out _ (gb_none Hg.out hW)) Ml.out (by omega)).mono ?_
                  rintro e w1 ⟨he, g⟩; rw [Hx.out] at he; subst he
                  exact ⟨_, rfl, hK _ _ g rfl⟩
                -- 12: more.go:22 binOp
                apply told_is
                · intro W f hW hE h0 K hK
                  have e57 : f 57 = _ := hE 5 57 _ rfl (by kernel_rfl)
                  have e62 : f 62 = _ := hE 0 62 _ rfl (by kernel_rfl)
                  clear hE h0
                  refine yes_of (want_free rfl) ?_
                  cases x
                  all_goals (go_simp; exact hK _ _ (gb_refl _ _) rfl)
                intro W f hW hA
                simp only [lexIn, Act.put, List.setIfInBounds_toArray, List.set_cons_zero, List.set_cons_succ]
                have e63 : f 63 = _ := hA 0 (some 63) _ rfl
                rw [e63]
                clear hA
                have hcJ := (HRow.out W (gb_none Hg.out hW)).at_ HcJ.out
                have hcK := (HRow.out W (gb_none Hg.out hW)).at_ HcK.out
                have Hg2 : Hid (W5.grownBy W none) := gb_none Hg.out hW
                have k1 : IntKind.i64.wrap ((J : Int) - 1) = (K : Int) := by rw [hK1]; exact v3
                clear e63 hW hK1
                cases x <;> cases z
                all_goals
                  go_upto_region 15 with fail
                  clear k1 v1 v2 v3 hP hJ
                  go_wp2_with fail
                  go_roundw
                  case rel => exact ⟨k + 1, by omega, by go_num, by rw [show 20 * d + (k + 1) = 20 * d + k + 1 by omega, HN2.out]; first | rfl | simp, by rw [show 20 * d + (k + 1) = 20 * d + k + 1 by omega, HE2.out]; first | rfl | simp, Hg2.out⟩
                  case measure => simp [intOf]; omega
              · have hk0 : k = 20 := by omega
                subst hk0
                have d1 : decide (((20 : Nat) : Int) + 1 ≤ 20) = false := by decide
                have d2 : decide (20 + 1 ≤ 20) = false := by decide
                have Hg := Lib.hid hg
                clear hg hk hk20
                go_wp2_with fail
                go_roundw
                case rel => exact ⟨d + 1, by omega, by go_num, by rw [show 20 * (d + 1) = 20 * d + 20 by omega], by rw [show 20 * (d + 1) = 20 * d + 20 by omega], Hg.out⟩
                case measure => simp [intOf]; omega
          · have hd0 : d = 4 := by omega
            subst hd0
            have d1 : decide (((4 : Nat) : Int) < 4) = false := by decide
            have d2 : decide (4 < 4) = false := by decide
            have e1 : ((cntN l (20 * 4) : Nat) : Int) = sumR (l.drop 0) := cnt_sum l Ml.out Hs.out
            have e2 : endN l (20 * 4) = Ll := by rw [← HLl.out]; exact end_len l Ml.out Hs.out
            rw [e1, e2]
            have Hg := Lib.hid hg
            clear hg hd hd4 e1 e2
            go_wp2_with fail
            clear d1 d2
            go_loopw [10, 6] (fun i nv wr => ∃ q : Nat, q ≤ Ll ∧ i = .int .i64 q ∧ nv = .int .i64 (sumR (l.drop q)) ∧ W5.grownBy wr none) (fun i _ _ => Ll - (intOf i).toNat)
            case atStart => exact ⟨0, by omega, rfl, rfl, Hg.out⟩
            case round =>
              clear Hg
              obtain ⟨q, hq, rfl, rfl, hg⟩ := hrel
              have hRL := HRL.out _ hg
              by_cases hql : q < Ll
              · have d1 : decide (q < Ll) = true := decide_eq_true hql
                have d2 : decide ((q : Int) < (Ll : Int)) = true := decide_eq_true (by omega)
                have bk : (q : Int) < (Ll : Int) := by omega
                obtain ⟨g, o, rfl, hgl, _⟩ := hRL.2 (by omega)
                obtain ⟨x, hx⟩ : ∃ x, l[q]? = some x := ⟨_, List.getElem?_eq_getElem (by rw [HLl.out]; exact hql)⟩
                obtain ⟨h0, h1, h2⟩ := rl_at3 hRL hx
                have hT := sumR_drop hx
                obtain ⟨x1, x2, x3, x4, x5⟩ := Hs.out x (List.mem_of_getElem? hx)
                have hb2 := sumR_bound (l.drop (q + 1)) fun z hz => Hs.out z (List.mem_of_mem_drop hz)
                rw [List.length_drop, HLl.out] at hb2
                obtain ⟨S, eS⟩ : ∃ S, sumR (l.drop (q + 1)) = S := ⟨_, rfl⟩
                obtain ⟨T, eT⟩ : ∃ T, sumR (l.drop q) = T := ⟨_, rfl⟩
                rw [eS] at hT hb2
                rw [eT] at hT ⊢
                have v1 : IntKind.i64.wrap (x.t - x.f) = x.t - x.f := by rw [IntKind.wrap_i64]; omega
                have v2 : IntKind.i64.wrap (x.t - x.f + 1) = x.t - x.f + 1 := by rw [IntKind.wrap_i64]; omega
                have v3 : IntKind.i64.wrap (T - (x.t - x.f + 1)) = S := by rw [IntKind.wrap_i64]; omega
                have ES := Lib.hid eS
                have Hg := Lib.hid hg
                clear hx hT x1 x2 x3 x4 x5 hb2 eS eT hg hRL hgl
                go_upto_region 25 with fail
                go_quiet (fail)
                go_wp2_with fail
                go_roundw
                case rel => exact ⟨q + 1, by omega, by go_num, by rw [ES.out], gb_drewN Hg.out _⟩
                case measure => simp [intOf]; omega
              · have hq0 : q = Ll := by omega
                have d1 : decide (q < Ll) = false := decide_eq_false hql
                have d2 : decide ((q : Int) < (Ll : Int)) = false := decide_eq_false (by omega)
                have hs0 : sumR (l.drop q) = 0 := by rw [List.drop_eq_nil_of_le (by rw [HLl.out]; omega)]; rfl
                rw [hs0]
                have G := gb_none HGw.out hg
                clear hg hs0 hq hql
                go_wp2_with (first
                  | (go_at_call 11; (with_reducible refine (refMay_yes A_l Ll c_l l _ hRL Ml.out (by omega)).mono ?_); rintro e y ⟨rfl, gy⟩; replace G := gb_none G gy)
                  | (go_at_call 9; (with_reducible refine (awake_any _).mono ?_); rintro e y ⟨rfl, gy⟩; replace G := gb_none G gy))
                go_ret
                exact ⟨rfl, gb_below G (Nat.le_refl _)⟩

set_option maxRecDepth 100000 in
theorem lifted (os : Os) (started : os.Started) (H : Type) (enc : TypeId × Value → H) :
    ReturnsInHanded {} Try.checked os 7 .any (Rows.dotsCountSpec.pre6 enc Try.prog Try.f7 Rows.dotsCountRow.domain false) (Rows.dotsCountSpec.post enc Try.prog Try.f7 false true false false) := by
  refine returnsInHanded_of_change (C := Try.checked) own started (by kernel_rfl) Try.func7
    (ChangeSpec.witness6 (enc := enc) (C := Try.checked) false ⟨#[], #[.slice none 0 0], []⟩ 8 (by kernel_rfl) (by kernel_rfl) (by kernel_rfl) (by kernel_rfl)) ?_
  intro W base args ds gs before hval0 hW hcnd _
  have hval : ∀ (j : Nat) t v, Try.f7.params[j]? = some t → args[j]? = some v → Value.okWide Try.prog W .any base t v := hval0
  have hW' := hW
  obtain ⟨p, q, hA0, hV, rfl, hfz, hnd⟩ := hW
  have hA : DataW.TrodAll enc Try.prog W 0 (fun _ => true) true Try.f7.params.toList args.toList ds p := hA0
  rw [Try.params7] at hA hval
  obtain ⟨v0, vs0, d0, ds0, p0, q0, hargs, rfl, rfl, h0, r0⟩ := trodAll_cons hA
  obtain ⟨rfl, rfl, rfl⟩ := trodAll_nil r0
  obtain rfl : args = #[v0] := by cases args; simp_all
  obtain ⟨rfl, rfl⟩ := trodVars_none hV
  obtain ⟨a0, len0, cap0, rfl⟩ := okWide_slice Try.underlying35 (hval 0 35 v0 rfl rfl)
  have k0 := h0
  have lt0 : ∀ x ∈ p0, x.block < W.heap.size := by obtain ⟨m, hm⟩ := k0; exact DataW.trod_lt m _ _ _ hm
  obtain ⟨z0, w0⟩ : ∃ zs, IsRow .u8 W a0 len0 cap0 zs := by
    obtain ⟨fuel, hf⟩ := h0
    rcases open_ints Try.underlying35 Try.underlying5 (by kernel_rfl) hf with ⟨hcs, _⟩ | ⟨x, l, c, zs, hcs, _, hl, hm, hz, _, hcell, hwz⟩
    · simp [Value.cells] at hcs
      obtain ⟨rfl, rfl, rfl⟩ := hcs
      exact ⟨[], .inl ⟨rfl, rfl, rfl, rfl⟩⟩
    · simp [Value.cells] at hcs
      obtain ⟨rfl, rfl, rfl⟩ := hcs
      exact ⟨zs, .inr ⟨_, rfl, hl, hm, by simpa using hz, hcell, hwz⟩⟩
  clear hA0 hval0
  refine (walk a0 len0 cap0 z0 W w0).mono fun e W' ⟨he, bel⟩ => ?_
  subst he
  exact ⟨_, rfl, _, _, _, [], _, [], hW', trodAll_mk1 (shut_bool Try.underlying4 _), (trodAll_cons_mk (Below.trod laidOut (by kernel_rfl) (of_decide_eq_true (by kernel_rfl)) k0 bel lt0) trodAll_mk0), rfl, bel.frame _, fun h => by cases h⟩

theorem over : Rows.dotsCountRow.holds Try.pinned (OpenSpec.ofChange Rows.dotsCountSpec) :=
  OpenClaim.holds_of_wide 7 Try.f7 rfl rfl rfl rfl rfl rfl rfl ⟨rfl, rfl, rfl, rfl, rfl⟩ rfl rfl rfl rfl rfl (by kernel_rfl) Try.func7 (by kernel_rfl)
    (of_decide_eq_true (by kernel_rfl)) (by unfold Func.isWrapper; first | (rw [if_pos (by decide +kernel)]; kernel_rfl) | (rw [if_neg (by decide +kernel)]; exact ⟨rfl, rfl⟩))
    (fun os started H enc _ => lifted os started H enc)

theorem proved : Rows.DotsCountSaid := over
#print axioms proved
end Go.Proofs.Ytkibojoochlggaa.dotsCount
