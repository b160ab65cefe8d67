/-
  Proved: whatever values of its parameters' types it is called with, deaddroplaw15.MemberChain returns true, and each argument reads behind the call as it read before; the listed package-level variables being what the program's own text lays (the card ties them).
  Conditions: none but those of the card itself.
-/
import Derived.Test.YtdlafgkiddhejaaGreatDoorCards
import Derived.Test.YtdlafgkiddhejaaGreatDoorTie
import Derived.WalkKit
import Derived.ProofKit
import Derived.OpenShut
import Derived.ShutString
import Derived.Below
import Derived.ChangeOld
import Derived.Deep.DeepHandedRow
import Derived.LaidSub
import Derived.LaidHandle
import Derived.LaidLaws
import Derived.RowKitTokens
import Derived.Stop.LaidTwo
import Derived.Lib.LaidTab
import Derived.Test.YtdlafgkiddhejaaGreatDoorMbLaw
import Derived.Test.YtdlafgkiddhejaaGreatDoorMbOpen
import Derived.Deep.DeepCutAuto
import Derived.Test.YtdlafgkiddhejaaGreatDoorSn
namespace Go.Proofs.YtdlafgkiddhejaaGreatDoor.memberChain
open Go.ChangeShapes Go.WideShapes Go.ChangeAt Go.RowKit
open Go.ChangeMaps (open_string shut_string)
open Go.Proofs.YtdlafgkiddhejaaGreatDoor.Mm Go.Proofs.YtdlafgkiddhejaaGreatDoor.Dt Go.Proofs.YtdlafgkiddhejaaGreatDoor.Td Go.Proofs.YtdlafgkiddhejaaGreatDoor.Vw Go.Proofs.YtdlafgkiddhejaaGreatDoor.Wd Go.Proofs.YtdlafgkiddhejaaGreatDoor.Hh Go.Proofs.YtdlafgkiddhejaaGreatDoor.Mb Go.Proofs.YtdlafgkiddhejaaGreatDoor.Me Go.Proofs.YtdlafgkiddhejaaGreatDoor
set_option linter.unusedVariables false

theorem own : ownKnob Tryz.prog.godebug = none := by kernel_rfl
theorem laidOut : laidOutB Tryz.prog = true := by kernel_rfl

attribute [local go_sem] Td.upon_value Td.upon_skip Td.upon_enter Td.upon_row Td.look_tmp Td.look_const Td.look_func Td.look_global
theorem step_small {l : List Rc} {k : Nat} {r : Rc} (h : ∀ i r, i < k → l[i]? = some r → r.wraps.length ≤ 12) (hr : l[k]? = some r) (h2 : r.wraps.length ≤ 12) : ∀ i r, i < k + 1 → l[i]? = some r → r.wraps.length ≤ 12 := fun i t hi ht => by
  rcases Nat.lt_succ_iff_lt_or_eq.1 hi with h3 | rfl
  · exact h i t h3 ht
  · rw [hr] at ht
    obtain rfl := Option.some.inj ht
    exact h2

set_option maxHeartbeats 40000000 in
set_option maxRecDepth 100000 in
theorem walk (a0 : Option Addr) (len0 cap0 : Nat) (l0 : List Rc) (w : World) (w0 : LogL w a0 len0 l0) (c0 : len0 ≤ cap0) (hE : Sn.Two w 0 1 ∧ Sn.Two w 2 3 ∧ Sn.Two w 4 5 ∧ Sn.Two w 6 7) (hT : w.cell? ⟨9, 0, none⟩ = some (.iface 126 (.agg #[.pointer (some ⟨12, 45, none⟩)]))) (hS : Tabs w) :
    Calls Tryz.prog 3 #[.slice a0 len0 cap0] w fun e w' => e = .returned (.bool true) ∧ Below w.heap.size w w' := by
  have HR : Hid (Rdy w) := ⟨hS, MErrs.of hE, hT⟩
  have HAw : Hid (∀ W, w.grownBy W none → Calls Tryz.prog 9 #[] W fun e w' => e = .returned (.bool true) ∧ W.grownBy w' none) := fun W hW => awake15_any W (HR.out.keep hW)
  clear hS hE hT
  have Hcap := Lib.hid c0
  go_enter Tryz.func3, Tryz.ntmps3
  go_wp2_with fail
  go_loopw [3] (fun i wr => ∃ k : Nat, k ≤ len0 ∧ k ≤ 50 ∧ i = .int .i64 k ∧ Hid (∀ i r, i < k → l0[i]? = some r → r.wraps.length ≤ 12) ∧ w.grownBy wr none) (fun i _ => len0 - (intOf i).toNat)
  case atStart => exact ⟨0, Nat.zero_le _, by decide, rfl, fun i r h _ => absurd h (Nat.not_lt_zero _), gb_refl _ _⟩
  case round =>
    obtain ⟨k, hk, hk2, rfl, Hw, hg⟩ := hrel
    by_cases hlt : k < len0
    · have d1 : decide (k < len0) = true := decide_eq_true hlt
      have d2 : decide ((k : Int) < (len0 : Int)) = true := decide_eq_true (by omega)
      by_cases h50 : k < 50
      · have d3 : decide (k < 50) = true := decide_eq_true h50
        have d4 : decide ((k : Int) < 50) = true := decide_eq_true (by omega)
        have bk : (k : Int) < (len0 : Int) := by omega
        have t1 : IntKind.i64.wrap ((k : Int) + 1) = ((k + 1 : Nat) : Int) := by rw [IntKind.wrap_i64]; omega
        have hLL := w0.keep hg
        obtain ⟨g, o, rfl, hgl, _⟩ := hLL.2 (by omega)
        obtain ⟨r, hx⟩ : ∃ r, l0[k]? = some r := ⟨_, List.getElem?_eq_getElem (by rw [w0.1]; exact hlt)⟩
        obtain ⟨RA, rc, y0, y1, y2, y3, y4, y5, hwl, hrc⟩ := (Mb.log_rec hLL hx).2
        have HGr := Lib.hid (great_any r RA rc wr hwl hrc)
        have Hx := Lib.hid hx
        have Hlt := Lib.hid hlt
        have H50 := Lib.hid h50
        have Hg := Lib.hid hg
        clear hLL hgl hx hwl hrc hk hk2 hlt h50 hg
        go_wp2_with fail
        refine HGr.out.mono ?_
        rintro e w1 ⟨⟨q, rfl, hq⟩, g1⟩
        have Hq := Lib.hid hq
        have Hg1 := Lib.hid (gb_none Hg.out g1)
        clear hq g1 y0 y1 y2 y3 y4 y5
        cases q with
        | true =>
          go_wp2_with fail
          refine (HAw.out w1 Hg1.out).mono ?_
          rintro e wz ⟨rfl, gz⟩
          go_wp2_with fail
          go_ret
          exact ⟨rfl, gb_below (gb_none Hg1.out gz) (Nat.le_refl _)⟩
        | false =>
          go_wp2_with fail
          go_roundw
          case rel => exact ⟨k + 1, by have := Hlt.out; omega, by have := H50.out; omega, rfl, step_small Hw.out Hx.out (Hq.out (by first | rfl | trivial)), Hg1.out⟩
          case measure => simp [intOf]; have := Hlt.out; omega
      · have d3 : decide (k < 50) = false := decide_eq_false h50
        have d4 : decide ((k : Int) < 50) = false := decide_eq_false (by omega)
        by_cases h45 : len0 ≤ 45
        · have e1 : decide (45 < len0) = false := decide_eq_false (by omega)
          have e2 : decide ((45 : Int) < (len0 : Int)) = false := decide_eq_false (by omega)
          have Hb : Hid (∀ r ∈ l0, r.wraps.length ≤ 1099511627776) := fun r hr => by
            obtain ⟨i, hi⟩ := List.getElem?_of_mem hr
            have h1 := (List.getElem?_eq_some_iff.1 hi).1
            have h2 := Hw.out i r (by have := w0.1; omega) hi
            omega
          clear h45 hk hk2 hlt h50
          by_cases hc : ChainR l0
          · go_wp2_with fail
            refine (check_log a0 len0 cap0 l0 wr (w0.keep hg) Hb.out (HR.out.keep hg).1 (HR.out.keep hg).2.1).mono ?_
            intro e w1 hh
            obtain ⟨he, g1⟩ := hh.yes hc
            subst he
            clear hh
            go_wp2_with fail
            refine (refCheck_any a0 len0 cap0 l0 w1 (w0.keep (gb_none hg g1)) Hcap.out Hb.out).mono ?_
            intro e w2 hh
            obtain ⟨he, g2⟩ := hh.yes hc
            subst he
            clear hh
            have Hg2 := Lib.hid (gb_none hg (gb_none g1 g2))
            go_wp2_with fail
            refine (HAw.out w2 Hg2.out).mono ?_
            rintro e wz ⟨rfl, gz⟩
            go_wp2_with fail
            go_ret
            exact ⟨rfl, gb_below (gb_none Hg2.out gz) (Nat.le_refl _)⟩
          · go_wp2_with fail
            refine (check_log a0 len0 cap0 l0 wr (w0.keep hg) Hb.out (HR.out.keep hg).1 (HR.out.keep hg).2.1).mono ?_
            intro e w1 hh
            obtain ⟨he, g1⟩ := hh.no hc
            subst he
            clear hh
            go_wp2_with fail
            refine (refCheck_any a0 len0 cap0 l0 w1 (w0.keep (gb_none hg g1)) Hcap.out Hb.out).mono ?_
            intro e w2 hh
            obtain ⟨he, g2⟩ := hh.no hc
            subst he
            clear hh
            have Hg2 := Lib.hid (gb_none hg (gb_none g1 g2))
            go_wp2_with fail
            refine (HAw.out w2 Hg2.out).mono ?_
            rintro e wz ⟨rfl, gz⟩
            go_wp2_with fail
            go_ret
            exact ⟨rfl, gb_below (gb_none Hg2.out gz) (Nat.le_refl _)⟩
        · have e1 : decide (45 < len0) = true := decide_eq_true (by omega)
          have e2 : decide ((45 : Int) < (len0 : Int)) = true := decide_eq_true (by omega)
          clear h45 hk hk2 hlt h50
          go_wp2_with fail
          go_ret
          exact ⟨rfl, gb_below hg (Nat.le_refl _)⟩
    · have d1 : decide (k < len0) = false := decide_eq_false hlt
      have d2 : decide ((k : Int) < (len0 : Int)) = false := decide_eq_false (by omega)
      by_cases h45 : len0 ≤ 45
      · have e1 : decide (45 < len0) = false := decide_eq_false (by omega)
        have e2 : decide ((45 : Int) < (len0 : Int)) = false := decide_eq_false (by omega)
        have Hb : Hid (∀ r ∈ l0, r.wraps.length ≤ 1099511627776) := fun r hr => by
          obtain ⟨i, hi⟩ := List.getElem?_of_mem hr
          have h1 := (List.getElem?_eq_some_iff.1 hi).1
          have h2 := Hw.out i r (by have := w0.1; omega) hi
          omega
        clear h45 hk hk2 hlt
        by_cases hc : ChainR l0
        · go_wp2_with fail
          refine (check_log a0 len0 cap0 l0 wr (w0.keep hg) Hb.out (HR.out.keep hg).1 (HR.out.keep hg).2.1).mono ?_
          intro e w1 hh
          obtain ⟨he, g1⟩ := hh.yes hc
          subst he
          clear hh
          go_wp2_with fail
          refine (refCheck_any a0 len0 cap0 l0 w1 (w0.keep (gb_none hg g1)) Hcap.out Hb.out).mono ?_
          intro e w2 hh
          obtain ⟨he, g2⟩ := hh.yes hc
          subst he
          clear hh
          have Hg2 := Lib.hid (gb_none hg (gb_none g1 g2))
          go_wp2_with fail
          refine (HAw.out w2 Hg2.out).mono ?_
          rintro e wz ⟨rfl, gz⟩
          go_wp2_with fail
          go_ret
          exact ⟨rfl, gb_below (gb_none Hg2.out gz) (Nat.le_refl _)⟩
        · go_wp2_with fail
          refine (check_log a0 len0 cap0 l0 wr (w0.keep hg) Hb.out (HR.out.keep hg).1 (HR.out.keep hg).2.1).mono ?_
          intro e w1 hh
          obtain ⟨he, g1⟩ := hh.no hc
          subst he
          clear hh
          go_wp2_with fail
          refine (refCheck_any a0 len0 cap0 l0 w1 (w0.keep (gb_none hg g1)) Hcap.out Hb.out).mono ?_
          intro e w2 hh
          obtain ⟨he, g2⟩ := hh.no hc
          subst he
          clear hh
          have Hg2 := Lib.hid (gb_none hg (gb_none g1 g2))
          go_wp2_with fail
          refine (HAw.out w2 Hg2.out).mono ?_
          rintro e wz ⟨rfl, gz⟩
          go_wp2_with fail
          go_ret
          exact ⟨rfl, gb_below (gb_none Hg2.out gz) (Nat.le_refl _)⟩
      · have e1 : decide (45 < len0) = true := decide_eq_true (by omega)
        have e2 : decide ((45 : Int) < (len0 : Int)) = true := decide_eq_true (by omega)
        clear h45 hk hk2 hlt
        go_wp2_with fail
        go_ret
        exact ⟨rfl, gb_below hg (Nat.le_refl _)⟩

theorem star : "*" ++ "errors.errorString" = "*errors.errorString" := by decide
theorem row_err (u : TypeId) (h : Tryz.prog.typeName? 3 u = some "*errors.errorString") : u = 168 :=
  typeName_ptr_named (nm := "errors.errorString") (by rw [star]; kernel_rfl) (by kernel_rfl) (by decide) u (by rw [star]; exact h)
theorem two0_1 {W : World} (h : laidMetH Tryz.prog Rows.memberChainRow.laid W) : Sn.Two W 0 1 := by
  have h4 : laidMet Tryz.prog [("deaddrop/member.errMany", Rows.laid_deaddrop_member_errMany), ("deaddrop/member.errRecord", Rows.laid_deaddrop_member_errRecord)] W := (laidMetH_iff.1 (laidMetH.filter (fun x => x.1 == "deaddrop/member.errMany" || x.1 == "deaddrop/member.errRecord") h)).1
  obtain ⟨a0, a1, s0, s1, c0, c1, t0, t1, hv0, hv1, hc0, hs0, hz0, hc1, hs1, hz1, hne, hb0, hb1⟩ := laid_sentinels2 h4 (g0 := 0) (g1 := 1) (ti := 45) (by kernel_rfl) (by kernel_rfl) (by kernel_rfl) (by kernel_rfl) Tryz.underlying45 row_err Tryz.underlying168 Tryz.underlying187 rfl rfl Tryz.underlying9 (by kernel_rfl) (by kernel_rfl)
  exact ⟨a0, a1, c0, c1, t0, t1, by simpa using World.var?_cell (g := 0) (by kernel_rfl) hv0 0, by simpa using World.var?_cell (g := 1) (by kernel_rfl) hv1 0, hne, hb0, hb1⟩
theorem two2_3 {W : World} (h : laidMetH Tryz.prog Rows.memberChainRow.laid W) : Sn.Two W 2 3 := by
  have h4 : laidMet Tryz.prog [("deaddrop/member.errSeq", Rows.laid_deaddrop_member_errSeq), ("deaddrop/member.errPrev", Rows.laid_deaddrop_member_errPrev)] W := (laidMetH_iff.1 (laidMetH.filter (fun x => x.1 == "deaddrop/member.errSeq" || x.1 == "deaddrop/member.errPrev") h)).1
  obtain ⟨a0, a1, s0, s1, c0, c1, t0, t1, hv0, hv1, hc0, hs0, hz0, hc1, hs1, hz1, hne, hb0, hb1⟩ := laid_sentinels2 h4 (g0 := 2) (g1 := 3) (ti := 45) (by kernel_rfl) (by kernel_rfl) (by kernel_rfl) (by kernel_rfl) Tryz.underlying45 row_err Tryz.underlying168 Tryz.underlying187 rfl rfl Tryz.underlying9 (by kernel_rfl) (by kernel_rfl)
  exact ⟨a0, a1, c0, c1, t0, t1, by simpa using World.var?_cell (g := 2) (by kernel_rfl) hv0 0, by simpa using World.var?_cell (g := 3) (by kernel_rfl) hv1 0, hne, hb0, hb1⟩
theorem two4_5 {W : World} (h : laidMetH Tryz.prog Rows.memberChainRow.laid W) : Sn.Two W 4 5 := by
  have h4 : laidMet Tryz.prog [("deaddrop/member.errFirst", Rows.laid_deaddrop_member_errFirst), ("deaddrop/member.errHave", Rows.laid_deaddrop_member_errHave)] W := (laidMetH_iff.1 (laidMetH.filter (fun x => x.1 == "deaddrop/member.errFirst" || x.1 == "deaddrop/member.errHave") h)).1
  obtain ⟨a0, a1, s0, s1, c0, c1, t0, t1, hv0, hv1, hc0, hs0, hz0, hc1, hs1, hz1, hne, hb0, hb1⟩ := laid_sentinels2 h4 (g0 := 4) (g1 := 5) (ti := 45) (by kernel_rfl) (by kernel_rfl) (by kernel_rfl) (by kernel_rfl) Tryz.underlying45 row_err Tryz.underlying168 Tryz.underlying187 rfl rfl Tryz.underlying9 (by kernel_rfl) (by kernel_rfl)
  exact ⟨a0, a1, c0, c1, t0, t1, by simpa using World.var?_cell (g := 4) (by kernel_rfl) hv0 0, by simpa using World.var?_cell (g := 5) (by kernel_rfl) hv1 0, hne, hb0, hb1⟩
theorem two6_7 {W : World} (h : laidMetH Tryz.prog Rows.memberChainRow.laid W) : Sn.Two W 6 7 := by
  have h4 : laidMet Tryz.prog [("deaddrop/member.errNone", Rows.laid_deaddrop_member_errNone), ("deaddrop/member.errStay", Rows.laid_deaddrop_member_errStay)] W := (laidMetH_iff.1 (laidMetH.filter (fun x => x.1 == "deaddrop/member.errNone" || x.1 == "deaddrop/member.errStay") h)).1
  obtain ⟨a0, a1, s0, s1, c0, c1, t0, t1, hv0, hv1, hc0, hs0, hz0, hc1, hs1, hz1, hne, hb0, hb1⟩ := laid_sentinels2 h4 (g0 := 6) (g1 := 7) (ti := 45) (by kernel_rfl) (by kernel_rfl) (by kernel_rfl) (by kernel_rfl) Tryz.underlying45 row_err Tryz.underlying168 Tryz.underlying187 rfl rfl Tryz.underlying9 (by kernel_rfl) (by kernel_rfl)
  exact ⟨a0, a1, c0, c1, t0, t1, by simpa using World.var?_cell (g := 6) (by kernel_rfl) hv0 0, by simpa using World.var?_cell (g := 7) (by kernel_rfl) hv1 0, hne, hb0, hb1⟩
theorem et : Tryz.prog.globalNamed "errors.errorType" = some 9 := by kernel_rfl
theorem rt : (Tryz.prog.cutTypes.find? (·.1 == "internal/reflectlite.rtype")).map (·.2) = some 126 := by kernel_rfl
theorem one_error : ((List.range 198).filter fun t => Tryz.prog.rowNamed t [101, 114, 114, 111, 114]) = [45] := by kernel_rfl
theorem how_many : Tryz.prog.types.size = 198 := by kernel_rfl
theorem handle : typeHandle Tryz.prog 45 = .pointer (some ⟨12, 45, none⟩) := by kernel_rfl
theorem errT {W : World} (h : laidMetH Tryz.prog Rows.memberChainRow.laid W) : W.cell? ⟨9, 0, none⟩ = some (.iface 126 (.agg #[.pointer (some ⟨12, 45, none⟩)])) := by
  have hm : ("errors.errorType", Rows.laid_errors_errorType) ∈ (Rows.memberChainRow.laid.filter fun x => x.2.handleName?.isSome) := List.mem_filter.2 ⟨List.Mem.tail _ (List.Mem.tail _ (List.Mem.head _)), by simp [DataW.handleName?, Rows.laid_errors_errorType]⟩
  obtain ⟨n, u, t, hn, hu, ht, hr, hc⟩ := (laidMetH_iff.1 h).2 _ hm
  obtain rfl := Option.some.inj hn
  obtain rfl := Option.some.inj (rt.symm.trans hu)
  have hin : t ∈ [45] := by
    rw [← one_error]
    exact List.mem_filter.2 ⟨List.mem_range.2 (how_many ▸ ht), hr⟩
  obtain rfl := List.mem_singleton.1 hin
  rw [handle] at hc
  have := World.var?_cell et hc 0
  simpa using this
theorem tabs {W : World} (h : laidMetH Tryz.prog Rows.memberChainRow.laid W) : Tabs W := by
  have gh1 : laidMet Tryz.prog [("deaddrop/sha.opening", Rows.laid_deaddrop_sha_opening)] W := (laidMetH_iff.1 (laidMetH.filter (fun x => x.1 == "deaddrop/sha.opening") h)).1
  have h1 : Lib.TabIs Tryz.prog W "deaddrop/sha.opening" .u32 [1779033703, 3144134277, 1013904242, 2773480762, 1359893119, 2600822924, 528734635, 1541459225] := Lib.tabIs_of_head (rest := []) (g := 8) (t := 96) (e := 59) (n := 8) (by kernel_rfl) (by kernel_rfl) Tryz.underlying96 Tryz.underlying59 (by kernel_rfl) (by kernel_rfl) gh1
  have gh2 : laidMet Tryz.prog [("deaddrop/sha.roundNumbers", Rows.laid_deaddrop_sha_roundNumbers)] W := (laidMetH_iff.1 (laidMetH.filter (fun x => x.1 == "deaddrop/sha.roundNumbers") h)).1
  have h2 : Lib.TabIs Tryz.prog W "deaddrop/sha.roundNumbers" .u32 [1116352408, 1899447441, 3049323471, 3921009573, 961987163, 1508970993, 2453635748, 2870763221, 3624381080, 310598401, 607225278, 1426881987, 1925078388, 2162078206, 2614888103, 3248222580, 3835390401, 4022224774, 264347078, 604807628, 770255983, 1249150122, 1555081692, 1996064986, 2554220882, 2821834349, 2952996808, 3210313671, 3336571891, 3584528711, 113926993, 338241895, 666307205, 773529912, 1294757372, 1396182291, 1695183700, 1986661051, 2177026350, 2456956037, 2730485921, 2820302411, 3259730800, 3345764771, 3516065817, 3600352804, 4094571909, 275423344, 430227734, 506948616, 659060556, 883997877, 958139571, 1322822218, 1537002063, 1747873779, 1955562222, 2024104815, 2227730452, 2361852424, 2428436474, 2756734187, 3204031479, 3329325298] := Lib.tabIs_of_head (rest := []) (g := 10) (t := 156) (e := 59) (n := 64) (by kernel_rfl) (by kernel_rfl) Tryz.underlying156 Tryz.underlying59 (by kernel_rfl) (by kernel_rfl) gh2
  have e1 : ∀ i, i < 8 → ([1779033703, 3144134277, 1013904242, 2773480762, 1359893119, 2600822924, 528734635, 1541459225] : List Int).getD i 0 = ((firstH.getD i 0).toNat : Int) := by decide
  have e2 : ∀ i, i < 64 → ([1116352408, 1899447441, 3049323471, 3921009573, 961987163, 1508970993, 2453635748, 2870763221, 3624381080, 310598401, 607225278, 1426881987, 1925078388, 2162078206, 2614888103, 3248222580, 3835390401, 4022224774, 264347078, 604807628, 770255983, 1249150122, 1555081692, 1996064986, 2554220882, 2821834349, 2952996808, 3210313671, 3336571891, 3584528711, 113926993, 338241895, 666307205, 773529912, 1294757372, 1396182291, 1695183700, 1986661051, 2177026350, 2456956037, 2730485921, 2820302411, 3259730800, 3345764771, 3516065817, 3600352804, 4094571909, 275423344, 430227734, 506948616, 659060556, 883997877, 958139571, 1322822218, 1537002063, 1747873779, 1955562222, 2024104815, 2227730452, 2361852424, 2428436474, 2756734187, 3204031479, 3329325298] : List Int).getD i 0 = ((konst.getD i 0).toNat : Int) := by decide +kernel
  have c1 : ∀ i, i < 8 → W.cell? ⟨8, i, none⟩ = some (w32 (firstH.getD i 0)) := fun i hi => by
    have := h1.cell (g := 8) (by kernel_rfl) i hi
    rw [e1 i hi] at this; exact this
  have c2 : ∀ i, i < 64 → W.cell? ⟨10, i, none⟩ = some (w32 (konst.getD i 0)) := fun i hi => by
    have := h2.cell (g := 10) (by kernel_rfl) i hi
    rw [e2 i hi] at this; exact this
  exact ⟨block_lt_of_cell (c2 0 (by decide)), c1, c2⟩

set_option maxRecDepth 100000 in
theorem contract (H : Type) (enc : TypeId × Value → H) (W : World) (base : Nat) (args : Array Value) (ds gs : List (DataW H)) (before : List MemPlace)
    (hval0 : ∀ (j : Nat) t v, Tryz.f3.params[j]? = some t → args[j]? = some v → Value.okWide Tryz.prog W .any base t v)
    (hW : DataW.Whole enc Tryz.prog Tryz.f3.params.toList Rows.memberChainSpec.vars false W args.toList ds gs before) (hL : laidMetH Tryz.prog Rows.memberChainRow.laid W) :
    Calls Tryz.prog 3 args W fun e W' => ∃ v, e = .returned v ∧ Rows.memberChainSpec.post enc Tryz.prog Tryz.f3 false true false false W args v W' := by
  have hval : ∀ (j : Nat) t v, Tryz.f3.params[j]? = some t → args[j]? = some v → Value.okWide Tryz.prog W .any base t v := hval0
  have hW' := hW
  obtain ⟨p, q, hA0, hV, rfl, hfz, hnd⟩ := hW
  have hA : DataW.TrodAll enc Tryz.prog W 0 (fun _ => true) true Tryz.f3.params.toList args.toList ds p := hA0
  rw [Tryz.params3] at hA hval
  obtain ⟨v0, vs0, d0, ds0, p0, q0, hargs, rfl, rfl, h0, r0⟩ := trodAll_cons hA
  obtain ⟨rfl, rfl, rfl⟩ := trodAll_nil r0
  obtain rfl : args = #[v0] := by cases args; simp_all
  obtain ⟨rfl, rfl⟩ := trodVars_none hV
  have k0 := h0
  have lt0 : ∀ x ∈ p0, x.block < W.heap.size := by obtain ⟨m, hm⟩ := k0; exact DataW.trod_lt m _ _ _ hm
  obtain ⟨a0, len0, cap0, l0, rfl, w0, c0⟩ := open_log (hval 0 22 v0 rfl rfl) h0
  clear hA0 hval0
  refine (walk a0 len0 cap0 l0 W w0 c0 ⟨two0_1 hL, two2_3 hL, two4_5 hL, two6_7 hL⟩ (errT hL) (tabs hL)).mono fun e W' ⟨he, bel⟩ => ?_
  subst he
  exact ⟨_, rfl, _, _, _, [], _, [], hW', trodAll_mk1 (shut_bool Tryz.underlying4 _), (trodAll_cons_mk (Below.trod laidOut (by kernel_rfl) (of_decide_eq_true (by kernel_rfl)) k0 bel lt0) trodAll_mk0), rfl, bel.frame _, fun h => by cases h⟩

def lay (cs : Array Value) : Obj → Obj
  | .cells _ t frozen => .cells cs t frozen
  | o => o
noncomputable def low : Nat := (World.holding Tryz.prog default ⟨#[], #[], []⟩).heap.size
noncomputable def laidWorld (os : Os) : World :=
  { World.holding Tryz.prog os ⟨#[.cells #[.string ⟨#[109, 111, 114, 101, 32, 116, 104, 97, 110, 32, 97, 32, 99, 104, 97, 105, 110, 32, 109, 97, 121, 32, 104, 97, 118, 101]⟩] 187, .cells #[.string ⟨#[105, 116, 32, 109, 97, 121, 32, 110, 111, 116, 32, 98, 101]⟩] 187, .cells #[.string ⟨#[110, 111, 116, 32, 116, 104, 101, 32, 111, 110, 101, 32, 98, 101, 104, 105, 110, 100, 32, 116, 104, 101, 32, 111, 110, 101, 32, 97, 104, 101, 97, 100]⟩] 187, .cells #[.string ⟨#[97, 110, 111, 116, 104, 101, 114, 32, 114, 101, 99, 111, 114, 100, 39, 115, 32, 104, 97, 115, 104, 32, 116, 104, 97, 110, 32, 116, 104, 97, 116, 32, 111, 102, 32, 116, 104, 101, 32, 111, 110, 101, 32, 97, 104, 101, 97, 100]⟩] 187, .cells #[.string ⟨#[116, 104, 101, 32, 102, 105, 114, 115, 116, 32, 114, 101, 99, 111, 114, 100, 32, 97, 100, 100, 115, 32, 100, 101, 118, 105, 99, 101, 32, 48]⟩] 187, .cells #[.string ⟨#[97, 100, 100, 101, 100, 32, 119, 104, 105, 108, 101, 32, 105, 116, 32, 105, 115, 32, 97, 32, 109, 101, 109, 98, 101, 114]⟩] 187, .cells #[.string ⟨#[114, 101, 118, 111, 107, 101, 100, 32, 119, 104, 105, 108, 101, 32, 105, 116, 32, 105, 115, 32, 110, 111, 32, 109, 101, 109, 98, 101, 114]⟩] 187, .cells #[.string ⟨#[105, 116, 32, 115, 116, 97, 121, 115, 32, 102, 111, 114, 32, 103, 111, 111, 100]⟩] 187], #[], []⟩ with heap := ((((((((((((World.holding Tryz.prog os ⟨#[.cells #[.string ⟨#[109, 111, 114, 101, 32, 116, 104, 97, 110, 32, 97, 32, 99, 104, 97, 105, 110, 32, 109, 97, 121, 32, 104, 97, 118, 101]⟩] 187, .cells #[.string ⟨#[105, 116, 32, 109, 97, 121, 32, 110, 111, 116, 32, 98, 101]⟩] 187, .cells #[.string ⟨#[110, 111, 116, 32, 116, 104, 101, 32, 111, 110, 101, 32, 98, 101, 104, 105, 110, 100, 32, 116, 104, 101, 32, 111, 110, 101, 32, 97, 104, 101, 97, 100]⟩] 187, .cells #[.string ⟨#[97, 110, 111, 116, 104, 101, 114, 32, 114, 101, 99, 111, 114, 100, 39, 115, 32, 104, 97, 115, 104, 32, 116, 104, 97, 110, 32, 116, 104, 97, 116, 32, 111, 102, 32, 116, 104, 101, 32, 111, 110, 101, 32, 97, 104, 101, 97, 100]⟩] 187, .cells #[.string ⟨#[116, 104, 101, 32, 102, 105, 114, 115, 116, 32, 114, 101, 99, 111, 114, 100, 32, 97, 100, 100, 115, 32, 100, 101, 118, 105, 99, 101, 32, 48]⟩] 187, .cells #[.string ⟨#[97, 100, 100, 101, 100, 32, 119, 104, 105, 108, 101, 32, 105, 116, 32, 105, 115, 32, 97, 32, 109, 101, 109, 98, 101, 114]⟩] 187, .cells #[.string ⟨#[114, 101, 118, 111, 107, 101, 100, 32, 119, 104, 105, 108, 101, 32, 105, 116, 32, 105, 115, 32, 110, 111, 32, 109, 101, 109, 98, 101, 114]⟩] 187, .cells #[.string ⟨#[105, 116, 32, 115, 116, 97, 121, 115, 32, 102, 111, 114, 32, 103, 111, 111, 100]⟩] 187], #[], []⟩).heap).modify 0 (lay #[.iface 168 (.pointer (some ⟨low, 0, none⟩))])).modify 1 (lay #[.iface 168 (.pointer (some ⟨low + 1, 0, none⟩))])).modify 2 (lay #[.iface 168 (.pointer (some ⟨low + 2, 0, none⟩))])).modify 3 (lay #[.iface 168 (.pointer (some ⟨low + 3, 0, none⟩))])).modify 4 (lay #[.iface 168 (.pointer (some ⟨low + 4, 0, none⟩))])).modify 5 (lay #[.iface 168 (.pointer (some ⟨low + 5, 0, none⟩))])).modify 6 (lay #[.iface 168 (.pointer (some ⟨low + 6, 0, none⟩))])).modify 7 (lay #[.iface 168 (.pointer (some ⟨low + 7, 0, none⟩))])).modify 9 (lay #[.iface 126 (.agg #[.pointer (some ⟨12, 45, none⟩)])])).modify 8 (lay #[.int .u32 1779033703, .int .u32 3144134277, .int .u32 1013904242, .int .u32 2773480762, .int .u32 1359893119, .int .u32 2600822924, .int .u32 528734635, .int .u32 1541459225])).modify 10 (lay #[.int .u32 1116352408, .int .u32 1899447441, .int .u32 3049323471, .int .u32 3921009573, .int .u32 961987163, .int .u32 1508970993, .int .u32 2453635748, .int .u32 2870763221, .int .u32 3624381080, .int .u32 310598401, .int .u32 607225278, .int .u32 1426881987, .int .u32 1925078388, .int .u32 2162078206, .int .u32 2614888103, .int .u32 3248222580, .int .u32 3835390401, .int .u32 4022224774, .int .u32 264347078, .int .u32 604807628, .int .u32 770255983, .int .u32 1249150122, .int .u32 1555081692, .int .u32 1996064986, .int .u32 2554220882, .int .u32 2821834349, .int .u32 2952996808, .int .u32 3210313671, .int .u32 3336571891, .int .u32 3584528711, .int .u32 113926993, .int .u32 338241895, .int .u32 666307205, .int .u32 773529912, .int .u32 1294757372, .int .u32 1396182291, .int .u32 1695183700, .int .u32 1986661051, .int .u32 2177026350, .int .u32 2456956037, .int .u32 2730485921, .int .u32 2820302411, .int .u32 3259730800, .int .u32 3345764771, .int .u32 3516065817, .int .u32 3600352804, .int .u32 4094571909, .int .u32 275423344, .int .u32 430227734, .int .u32 506948616, .int .u32 659060556, .int .u32 883997877, .int .u32 958139571, .int .u32 1322822218, .int .u32 1537002063, .int .u32 1747873779, .int .u32 1955562222, .int .u32 2024104815, .int .u32 2227730452, .int .u32 2361852424, .int .u32 2428436474, .int .u32 2756734187, .int .u32 3204031479, .int .u32 3329325298]) }
theorem laid_met (os : Os) : laidMetH Tryz.prog Rows.memberChainRow.laid ((laidWorld os).forCall (fun _ _ => 0) ⟨#[], #[.slice none 0 0], []⟩).memory :=
  laidMetH_of_parts (laidMet_of_run' 8 (by kernel_rfl) (by kernel_rfl)) (by kernel_rfl)
theorem reads (os : Os) {H : Type} (enc : TypeId × Value → H) : ∃ places, DataW.whole enc Tryz.prog ((laidWorld os).forCall (fun _ _ => 0) ⟨#[], #[.slice none 0 0], []⟩).memory Tryz.f3.params.toList Rows.memberChainSpec.vars false (show Array Value from #[.slice none 0 0]).toList 8 = some ([.nil], [], places) :=
  ⟨[], by kernel_rfl⟩

set_option maxRecDepth 100000 in
theorem lifted (os : Os) (started : os.Started) (H : Type) (enc : TypeId × Value → H) (F : Stop.Interp) :
    ReturnsInHanded {} Tryz.checked os 3 .any ((OpenSpec.ofChange Rows.memberChainSpec).preRow enc Tryz.prog Tryz.f3 Rows.memberChainRow.domain false Rows.memberChainRow.laid) (((OpenSpec.ofChange Rows.memberChainSpec).at F).post enc Tryz.prog Tryz.f3 false true false false) := by
  obtain ⟨places, hx⟩ := reads os enc
  refine returnsInHanded_of_row (C := Tryz.checked) (s := OpenSpec.ofChange Rows.memberChainSpec) own started (by kernel_rfl) Tryz.func3
    (witness_row_at (enc := enc) (C := Tryz.checked) false (laidWorld os) #[.slice none 0 0] rfl (by kernel_rfl) (by kernel_rfl) (by kernel_rfl)
      (OpenSpec.preRow_of_cond 8 hx (by kernel_rfl) (fun k hk => by cases hk) (by kernel_rfl) (laid_met os))) ?_
  intro W base args ds gs before hval hW _ _ _ hL _ _
  exact contract H enc W base args ds gs before hval hW hL

theorem said : Rows.MemberChainSaid :=
  OpenClaim.holds_of_cond 3 Tryz.f3 rfl rfl rfl rfl rfl rfl rfl ⟨rfl, rfl, rfl, rfl, rfl⟩ rfl rfl rfl rfl rfl (by kernel_rfl) Tryz.func3 (by kernel_rfl)
    (of_decide_eq_true (by kernel_rfl)) (by unfold Func.isWrapper; first | (rw [if_pos (by decide +kernel)]; kernel_rfl) | (rw [if_neg (by decide +kernel)]; exact ⟨rfl, rfl⟩))
    (fun os started H enc _ F => by rw [OpenClaim.pre_eq_preRow]; exact lifted os started H enc F)

theorem plain (f : FuncId) (fn : Func) (hf : Tryz.pinned.checked.prog.funcNamed "deaddrop/deaddroplaw15.MemberChain" = some f) (hfn : Tryz.pinned.checked.prog.funcs[f]? = some fn) :
    true = Tryz.pinned.checked.prog.looks [] ∧ ∀ (j : Nat) t, fn.params[j]? = some t → Tryz.pinned.checked.prog.wantsStandIn t = false := by
  obtain rfl : f = 3 := Option.some.inj ((show Tryz.prog.funcNamed "deaddrop/deaddroplaw15.MemberChain" = some 3 by kernel_rfl).symm.trans hf) |>.symm
  obtain rfl : fn = Tryz.f3 := (Option.some.inj (Tryz.func3.symm.trans hfn)).symm
  refine ⟨by kernel_rfl, fun j t ht => ?_⟩
  have hall : (Tryz.f3.params.toList.all fun u => !Tryz.prog.wantsStandIn u) = true := by kernel_rfl
  have hm : t ∈ Tryz.f3.params.toList := by simpa using Array.mem_of_getElem? ht
  exact (show Tryz.prog.wantsStandIn t = false by simpa using List.all_eq_true.1 hall t hm)

theorem card : Rows.MemberChainCardSaid :=
  Claim7.holds_tied_plain_at .later [] _ _ _ _ said (fun _ h => by cases h) (by kernel_rfl) (fun _ h => by cases h) memberChain_row_tie rfl ⟨rfl, rfl⟩ (by kernel_rfl) rfl plain (by kernel_rfl)
#print axioms card
end Go.Proofs.YtdlafgkiddhejaaGreatDoor.memberChain
