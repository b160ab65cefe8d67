/-
  Proved: whatever values of its parameters' types it is called with, deaddroplaw15.MemberMade returns true, and each argument reads behind the call as it read before; the listed package-level variables being what the program's own text lays (the card ties them).
  Conditions: none but those of the card itself.
-/
import Derived.Test.YtdlafgkiddhejaaGreatDoorCards
import Derived.Test.YtdlafgkiddhejaaGreatDoorTie
import Derived.WalkKit
import Derived.ProofKit
import Derived.OpenShut
import Derived.ShutString
import Derived.Below
import Derived.ChangeOld
import Derived.Deep.DeepHandedRow
import Derived.LaidSub
import Derived.LaidHandle
import Derived.LaidLaws
import Derived.RowKitTokens
import Derived.Stop.LaidTwo
import Derived.Lib.LaidTab
import Derived.Test.YtdlafgkiddhejaaGreatDoorMbChain
import Derived.Test.YtdlafgkiddhejaaGreatDoorTdA
import Derived.Test.YtdlafgkiddhejaaGreatDoorToldM
import Derived.Deep.DeepCutAuto
import Derived.Deep.CutBlock
import Derived.Maps.AppendAt
import Derived.Deep.AppendLies
import Derived.ArgAppend
import Derived.Test.YtdlafgkiddhejaaGreatDoorSn
namespace Go.Proofs.YtdlafgkiddhejaaGreatDoor.memberMade
open Go.ChangeShapes Go.WideShapes Go.ChangeAt Go.RowKit
open Go.ChangeMaps (open_string shut_string)
open Go.Proofs.YtdlafgkiddhejaaGreatDoor.Mm Go.Proofs.YtdlafgkiddhejaaGreatDoor.Dt Go.Proofs.YtdlafgkiddhejaaGreatDoor.Td Go.Proofs.YtdlafgkiddhejaaGreatDoor.Vw Go.Proofs.YtdlafgkiddhejaaGreatDoor.Wd Go.Proofs.YtdlafgkiddhejaaGreatDoor.Hh Go.Proofs.YtdlafgkiddhejaaGreatDoor.Mb Go.Proofs.YtdlafgkiddhejaaGreatDoor.Me Go.Proofs.YtdlafgkiddhejaaGreatDoor
set_option linter.unusedVariables false

theorem own : ownKnob Tryz.prog.godebug = none := by kernel_rfl
theorem laidOut : laidOutB Tryz.prog = true := by kernel_rfl
/-- What the walk is told of a slice of integers that came in. -/
def IsRow (k : IntKind) (w : World) (a : Option Addr) (len cap : Nat) (zs : List Int) : Prop :=
  (a = none ∧ len = 0 ∧ cap = 0 ∧ zs = []) ∨
  ∃ x, a = some x ∧ len ≤ cap ∧ cap ≤ maxLen ∧ zs.length = cap ∧ (∀ i, i < zs.length → w.cell? (x.add i) = some (.int k (zs.getD i 0))) ∧ ∀ n ∈ zs, (Lit.int k n).wf = true

attribute [local go_sem] Td.upon_value Td.upon_skip Td.upon_enter Td.upon_row Td.look_tmp Td.look_const Td.look_func Td.look_global
theorem u8l_of {w : World} {a : Option Addr} {len cap : Nat} {zs : List Int}
    (h : (a = none ∧ len = 0 ∧ cap = 0 ∧ zs = []) ∨ ∃ x, a = some x ∧ len ≤ cap ∧ cap ≤ maxLen ∧ zs.length = cap ∧ (∀ i, i < zs.length → w.cell? (x.add i) = some (.int .u8 (zs.getD i 0))) ∧ ∀ n ∈ zs, (Lit.int .u8 n).wf = true) :
    U8L w a len ((zs.take len).map Int.toNat) := by
  rcases h with ⟨rfl, rfl, rfl, rfl⟩ | ⟨x, rfl, hl, hc, hz, hcell, hwf⟩
  · exact ⟨rfl, fun h => absurd h (by omega)⟩
  · refine ⟨by rw [List.length_map, List.length_take]; omega, fun h0 => ?_⟩
    obtain ⟨b, o, sp⟩ := x
    have c0 := hcell 0 (by omega)
    cases sp with
    | some sp =>
      exfalso
      simp only [Addr.add, World.cell?] at c0
      split at c0 <;> simp at c0
    | none =>
      refine ⟨b, o, rfl, ?_, fun i x hx => ?_⟩
      · have := block_lt_of_cell c0
        simpa [Addr.add] using this
      · rw [List.getElem?_map, List.getElem?_take] at hx
        split at hx
        · obtain ⟨z, hz2, rfl⟩ := Option.map_eq_some_iff.1 hx
          have hin := (List.getElem?_eq_some_iff.1 hz2).1
          have ci := hcell i hin
          have hadd : (⟨b, o, none⟩ : Addr).add i = ⟨b, o + i, none⟩ := by unfold Addr.add; split <;> simp_all
          rw [hadd, List.getD_eq_getElem?_getD, hz2] at ci
          have hv := hwf z (List.mem_of_getElem? hz2)
          have hb : 0 ≤ z ∧ z ≤ 255 := by
            have h1 : IntKind.u8.min = 0 := by decide
            have h2 : IntKind.u8.max = 255 := by decide
            simp only [Lit.wf, h1, h2, Bool.and_eq_true, decide_eq_true_eq] at hv
            exact hv
          refine ⟨by omega, ?_⟩
          rw [show ((z.toNat : Nat) : Int) = z by omega]
          exact ci
        · cases hx
theorem rl_bare {W : World} {g cap : Nat} {l : List Rc} (h : RowLog W g cap l) : Bare l := by
  obtain ⟨_, _, _, _, _, h⟩ := h
  exact h
theorem rl_le {W : World} {g cap : Nat} {l : List Rc} (h : RowLog W g cap l) : l.length ≤ cap := by
  obtain ⟨_, _, _, h, _⟩ := h
  exact h
theorem rl_lt {W : World} {g cap : Nat} {l : List Rc} (h : RowLog W g cap l) : g < W.heap.size := by
  obtain ⟨_, h, _⟩ := h
  exact h.lt
theorem add_none (g o j : Nat) : (⟨g, o, none⟩ : Addr).add j = ⟨g, o + j, none⟩ := by unfold Addr.add; split <;> simp_all
theorem rl_news {W : World} {g cap : Nat} {l : List Rc} (h : RowLog W g cap l) : ∀ (j : Nat) (u : Value), (bv l)[j]? = some u → W.cell? ((⟨g, 0, none⟩ : Addr).add j) = some u := fun j u hu => by
  obtain ⟨cs, hrow, _, _, hc, _⟩ := h
  rw [add_none, Nat.zero_add]
  exact hrow.at_ (hc j u hu)
theorem rl_some_ {W : World} {g cap : Nat} {l : List Rc} (h : RowLog W g cap l) (q : Nat) (hq : q < cap * 6) : (W.cell? ⟨g, q, none⟩).isSome = true := by
  obtain ⟨cs, hrow, hs, _, _, _⟩ := h
  rw [hrow.at_ (v := cs[q]'(by omega)) (Array.getElem?_eq_getElem (by omega))]
  rfl
/-- What the seven ways leave: some records, short ones, in memory. -/
def MadeR (v1 : World) (lv : Value) (wx : World) : Prop := ∃ l' A n c, lv = .slice A n c ∧ n ≤ c ∧ LogL wx A n l' ∧ (∀ r ∈ l', r.wraps.length ≤ 1099511627776) ∧ v1.grownBy wx none
theorem made_set {v1 W : World} {g c N K j : Nat} {C : List Rc} {r t : Rc} {u : Value} (h : RowLog W g c C) (hN : C.length = N) (hr : C[K]? = some r) (hj : j < 6) (hu : bv1 t = (bv1 r).set j u) (ht : t.wraps = []) (hg : v1.grownBy W none) (hB : v1.heap.size ≤ g) : MadeR v1 (.slice (some ⟨g, 0, none⟩) N c) (W.setCell ⟨g, K * 6 + j, none⟩ u) := by
  have h2 := h.set_ hr hj hu ht
  have hl := h2.log
  rw [List.length_set, hN] at hl
  exact ⟨C.set K t, _, N, c, rfl, by have := rl_le h; omega, hl, bare_len (rl_bare h2), gb_new hg (gb_set1 _ _ _ _) hB⟩
theorem made_del {v1 W : World} {g c N K K1 : Nat} {C : List Rc} (h : RowLog W g c C) (hN : C.length = N) (hK : K < N) (hK1 : K + 1 = K1) (hg : v1.grownBy W none) (hB : v1.heap.size ≤ g) : MadeR v1 (.slice (some ⟨g, 0, none⟩) (K + (N - K1)) c) (W.setCells g (K * 6) (bv (C.drop (K + 1)))) := by
  have h2 := h.del (k := K) (by omega)
  have hl := h2.log
  have hle : (C.take K ++ C.drop (K + 1)).length = K + (N - K1) := by rw [List.length_append, List.length_take, List.length_drop]; omega
  rw [hle] at hl
  exact ⟨_, _, _, c, rfl, by have := rl_le h; omega, hl, bare_len (rl_bare h2), gb_new hg (gb_setCells _ _ _ _) hB⟩
theorem made_wrap {v1 W : World} {g c N K b : Nat} {T : TypeId} {C : List Rc} {sq kd dv : Int} {pv tg : ByteArray} (h : RowLog W g c C) (hN : C.length = N) (hr : C[K]? = some ⟨sq, pv, kd, dv, [], tg⟩) (hb : Row W b T #[.int .i64 3, .string ⟨#[120]⟩]) (hne : b ≠ g) (hg : v1.grownBy W none) (hB : v1.heap.size ≤ g) : MadeR v1 (.slice (some ⟨g, 0, none⟩) N c) (W.setCell ⟨g, K * 6 + 4, none⟩ (.slice (some ⟨b, 0, none⟩) 1 1)) := by
  have hle := rl_le h
  have hba := rl_bare h
  obtain ⟨cs, hrow, hs, _, hc, _⟩ := h
  have hK := (List.getElem?_eq_some_iff.1 hr).1
  have hr2 := hrow.set_ (K * 6 + 4) (.slice (some ⟨b, 0, none⟩) 1 1)
  have hb2 : Row (W.setCell ⟨g, K * 6 + 4, none⟩ (.slice (some ⟨b, 0, none⟩) 1 1)) b T #[.int .i64 3, .string ⟨#[120]⟩] := hb.kept (gb_set1 _ _ _ _) (by simpa using hne)
  have hat : ∀ q v, q ≠ K * 6 + 4 → (bv C)[q]? = some v → (W.setCell ⟨g, K * 6 + 4, none⟩ (.slice (some ⟨b, 0, none⟩) 1 1)).cell? ⟨g, 0 + q, none⟩ = some v := fun q v hq hv => by
    rw [Nat.zero_add]
    refine hr2.at_ ?_
    rw [Array.getElem?_setIfInBounds, if_neg (Ne.symm hq)]
    exact hc q v hv
  have h4 : (W.setCell ⟨g, K * 6 + 4, none⟩ (.slice (some ⟨b, 0, none⟩) 1 1)).cell? ⟨g, 0 + K * 6 + 4, none⟩ = some (.slice (some ⟨b, 0, none⟩) 1 1) := by
    rw [Nat.zero_add]
    refine hr2.at_ ?_
    rw [Array.getElem?_setIfInBounds, if_pos rfl, if_pos (by omega)]
  refine ⟨C.set K ⟨sq, pv, kd, dv, [⟨3, ⟨#[120]⟩⟩], tg⟩, _, N, c, rfl, by omega, ⟨by rw [List.length_set]; exact hN, fun _ => ⟨g, 0, rfl, hr2.lt, fun i x hx => ?_⟩⟩, fun x hx => ?_, gb_new hg (gb_set1 _ _ _ _) hB⟩
  · by_cases hi : i = K
    · subst hi
      rw [List.getElem?_set_self hK] at hx
      obtain rfl := Option.some.inj hx
      have r6 := bv_at C i _ hr
      refine ⟨some ⟨b, 0, none⟩, 1, hat _ _ (by omega) (r6 0 (by decide)), hat _ _ (by omega) (r6 1 (by decide)), hat _ _ (by omega) (r6 2 (by decide)), hat _ _ (by omega) (r6 3 (by decide)), h4, hat _ _ (by omega) (r6 5 (by decide)), ⟨rfl, fun _ => ⟨b, 0, rfl, hb2.lt, fun i2 y hy => ?_⟩⟩, Nat.le_refl _⟩
      cases i2 with
      | zero =>
        obtain rfl := Option.some.inj hy
        exact ⟨hb2.at_ (i := 0) rfl, hb2.at_ (i := 1) rfl⟩
      | succ i2 => cases hy
    · rw [List.getElem?_set_ne (Ne.symm hi)] at hx
      have r6 := bv_at C i x hx
      have hw := hba x (List.mem_of_getElem? hx)
      have h6 := hat (i * 6 + 4) _ (by omega) (r6 4 (by decide))
      refine ⟨none, 0, hat _ _ (by omega) (r6 0 (by decide)), hat _ _ (by omega) (r6 1 (by decide)), hat _ _ (by omega) (r6 2 (by decide)), hat _ _ (by omega) (r6 3 (by decide)), ?_, hat _ _ (by omega) (r6 5 (by decide)), ?_, ?_⟩
      · rw [hw]; exact h6
      · rw [hw]; exact WL.none _ _
      · rw [hw]; exact Nat.le_refl _
  · rcases List.mem_or_eq_of_mem_set hx with h1 | rfl
    · rw [hba x h1]; exact Nat.zero_le _
    · show 1 ≤ _; omega
theorem cut_back (g o n c k : Nat) (W : World) (hk : k ≤ n) : (Instr.slice 22 (.slice (some ⟨g, o, none⟩) n c) (some (.int .i64 (k : Int))) none none).run Tryz.prog W = .ok (.slice (some ⟨g, if c = k then o else o + k * 6, none⟩) (n - k) (c - k)) W := by
  have h1 : (0 : Int) ≤ (k : Int) := by omega
  have h2 : (k : Int) ≤ (n : Int) := by omega
  simp [Instr.slice, run_underlying Tryz.underlying22, Instr.sliceBounds, run_sliceBound, h1, h2]
  split
  · rfl
  · simp [Addr.add]
theorem news_back {W : World} {g c K K1 o9 : Nat} {C : List Rc} (h : RowLog W g c C) (hc : C.length ≤ c) (hK : K + 1 = K1) (ho : (if c = K1 then 0 else 0 + K1 * 6) = o9) : ∀ (j : Nat) (u : Value), (bv (C.drop (K + 1)))[j]? = some u → W.cell? ((⟨g, o9, none⟩ : Addr).add j) = some u := fun j u hu => by
  have h1 := rl_news h (K1 * 6 + j) u (by rw [← bv_drop, List.getElem?_drop, hK] at hu; exact hu)
  rw [add_none] at h1 ⊢
  by_cases hk : c = K1
  · exfalso
    rw [List.drop_eq_nil_of_le (by omega)] at hu
    cases hu
  · rw [if_neg hk] at ho
    rw [← ho, show 0 + K1 * 6 + j = 0 + (K1 * 6 + j) by omega]
    exact h1
theorem wpList_append_room {P : Program} {ops : Array Oper} {rest : List Oper} {o : Oper} {a : Act} {Q : Exit → Act → World → Prop} {w : World} (hgd : o.guard = none) (s x : Operand) (t : TypeId)
    (ho : o.op = .call { callee := .builtin .append, args := #[s, x], argTypes := #[t, t] })
    (e : TypeId) (i : TypeInfo) (size : Nat) (ht : P.underlying t = some (.slice e)) (hi : P.info? e = some i) (hsize : i.size = size)
    (b sLen sCap : Nat) (ad : Addr) (m c : Nat) (news : List Value) (hs : a.eval s = .slice (some ⟨b, 0, none⟩) sLen sCap) (hx : a.eval x = .slice (some ad) m c)
    (hl : news.length = m * size) (hnews : ∀ j u, news[j]? = some u → w.cell? (ad.add j) = some u) (h1 : ∀ u ∈ news, u.oneCell' = true)
    (hroom : sLen + m ≤ sCap) (hc : ∀ j, j < news.length → (w.cell? ⟨b, sLen * size + j, none⟩).isSome = true) (hf : ∀ j, j < news.length → w.frozen? ⟨b, sLen * size + j, none⟩ = false)
    (h : wpList P ops Q rest (a.put o.dst (.slice (some ⟨b, 0, none⟩) (sLen + m) sCap)) (w.setCells b (sLen * size) news)) :
    wpList P ops Q (o :: rest) a w := by
  subst hsize
  refine wpList_plain hgd fun K hK => ?_
  have hr := run_append_room_cells (P := P) (w := w) t o.type e i ht hi b 0 sLen sCap ad m c news hl hnews h1 hroom (by simpa using hc) (by simpa using hf)
  rw [Nat.zero_add] at hr
  unfold Oper.wp execOp
  simp only [ho, resolve, invoke, builtin, Sem.run_bind, Sem.run_pure, Result.andThen_ok, List.map_toArray, List.map_cons, List.map_nil, hs, hx, hr]
  exact hK _ _ h

set_option maxHeartbeats 40000000 in
set_option maxRecDepth 100000 in
theorem walk (a0 : Option Addr) (len0 cap0 : Nat) (z0 : List Int) (a1 : Int) (a2 : Int) (w : World) (w0 : IsRow .u8 w a0 len0 cap0 z0) (w1 : (Lit.int .u8 a1).wf = true) (w2 : (Lit.int .u8 a2).wf = true) (hE : Sn.Two w 0 1 ∧ Sn.Two w 2 3 ∧ Sn.Two w 4 5 ∧ Sn.Two w 6 7) (hT : w.cell? ⟨9, 0, none⟩ = some (.iface 126 (.agg #[.pointer (some ⟨12, 45, none⟩)]))) (hS : Tabs w) :
    Calls Tryz.prog 4 #[.slice a0 len0 cap0, .int .u8 a1, .int .u8 a2] w fun e w' => e = .returned (.bool true) ∧ Below w.heap.size w w' := by
  have HR : Hid (Rdy w) := ⟨hS, MErrs.of hE, hT⟩
  have HAw : Hid (∀ W, w.grownBy W none → Calls Tryz.prog 9 #[] W fun e w' => e = .returned (.bool true) ∧ W.grownBy w' none) := fun W hW => awake15_any W (HR.out.keep hW)
  clear hS hE hT
  obtain ⟨n1, n1'⟩ := u8_of w1
  obtain ⟨n2, n2'⟩ := u8_of w2
  have hu8 := u8l_of w0
  obtain ⟨ns, hns⟩ : ∃ ns, (z0.take len0).map Int.toNat = ns := ⟨_, rfl⟩
  rw [hns] at hu8
  have HU8 := Lib.hid hu8
  have Hn1 : Hid (0 ≤ a1 ∧ a1 ≤ 255) := ⟨n1, n1'⟩
  have Hn2 : Hid (0 ≤ a2 ∧ a2 ≤ 255) := ⟨n2, n2'⟩
  obtain ⟨i0, hi0, hz0, hz1, hz2⟩ := rec_parts
  have Hi0 := Lib.hid hi0
  have Hz0 := Lib.hid hz0
  have Hz1 := Lib.hid hz1
  have Hz2 := Lib.hid hz2
  clear w0 w1 w2 n1 n1' n2 n2' hns hu8 hi0 hz0 hz1 hz2
  go_enter Tryz.func4, Tryz.ntmps4
  go_wp2_with fail
  refine (chain_any a0 len0 cap0 ns w HU8.out).mono ?_
  rintro e v1 ⟨u1, rfl, hown, g1⟩
  have hch := chainC_chain ns
  have hbr := chainC_bare ns
  have h1N : 1 ≤ (chainC ns).length := by rw [chainC_len]; omega
  generalize chainC ns = C at *
  obtain ⟨N, hN⟩ : ∃ N, C.length = N := ⟨_, rfl⟩
  rw [hN] at hown h1N
  have hN40 : N ≤ 40 := by rw [← hN]; exact hch.1
  obtain ⟨g, c9, rfl, hB, hRL⟩ := own_rowlog hown hN (by omega) hbr
  have HG1 := Lib.hid g1
  have HB := Lib.hid hB
  have HN := Lib.hid hN
  have HN1 : Hid (1 ≤ N ∧ N ≤ 40) := ⟨h1N, hN40⟩
  have HRL : Hid (∀ W, v1.grownBy W none → RowLog W g c9 C) := fun W hW => hRL.keep hW (by simp)
  have HCk : Hid (∀ W, v1.grownBy W none → Calls Tryz.prog 10 #[(.slice (some ⟨g, 0, none⟩) N c9)] W fun e w' => e = .returned (.bool true) ∧ W.grownBy w' none) := fun W hW => (check_log _ N c9 C W (by have h := (HRL.out W hW).log; rw [hN] at h; exact h) (bare_len hbr) (HR.out.keep (gb_none HG1.out hW)).1 (HR.out.keep (gb_none HG1.out hW)).2.1).mono fun _ _ h => h.yes hch
  have HR1 : Hid (∀ W, v1.grownBy W none → Rdy W) := fun W hW => HR.out.keep (gb_none HG1.out hW)
  have HAw1 : Hid (∀ W, v1.grownBy W none → Calls Tryz.prog 9 #[] W fun e w' => e = .returned (.bool true) ∧ W.grownBy w' none) := fun W hW => HAw.out W (gb_none HG1.out hW)
  obtain ⟨K, hK, hK2⟩ : ∃ K : Nat, a1 % (N : Int) = (K : Int) ∧ K < N := by
    have h1 := Int.emod_nonneg a1 (show (N : Int) ≠ 0 by omega)
    have h2 := Int.emod_lt_of_pos a1 (show (0 : Int) < (N : Int) by omega)
    exact ⟨(a1 % (N : Int)).toNat, by omega, by omega⟩
  obtain ⟨r, hr⟩ : ∃ r, C[K]? = some r := ⟨_, List.getElem?_eq_getElem (by omega)⟩
  have hmay : MayR r := good_may hch.2 (List.mem_of_getElem? hr)
  have hwr : r.wraps = [] := hbr r (List.mem_of_getElem? hr)
  obtain ⟨sq, pv, kd, dv, wrp, tg⟩ := r
  obtain rfl : wrp = [] := hwr
  have HM := Lib.hid hmay
  have Hr := Lib.hid hr
  have HK2 := Lib.hid hK2
  have HC : Hid (∀ W, v1.grownBy W none → W.cell? ⟨g, K * 6, none⟩ = some (.int .i64 sq) ∧ W.cell? ⟨g, K * 6 + 1, none⟩ = some (.string pv) ∧ W.cell? ⟨g, K * 6 + 2, none⟩ = some (.int .i64 kd) ∧ W.cell? ⟨g, K * 6 + 3, none⟩ = some (.int .i64 dv) ∧ W.cell? ⟨g, K * 6 + 4, none⟩ = some (.slice none 0 0) ∧ W.cell? ⟨g, K * 6 + 5, none⟩ = some (.string tg)) := fun W hW => ⟨(HRL.out W hW).cell Hr.out 0 (by decide), (HRL.out W hW).cell Hr.out 1 (by decide), (HRL.out W hW).cell Hr.out 2 (by decide), (HRL.out W hW).cell Hr.out 3 (by decide), (HRL.out W hW).cell Hr.out 4 (by decide), (HRL.out W hW).cell Hr.out 5 (by decide)⟩
  obtain ⟨P, hP⟩ : ∃ P, recB ⟨sq, pv, kd, dv, [], tg⟩ = P := ⟨_, rfl⟩
  have HPu : Hid (∀ W, Calls Tryz.prog 14 #[.agg #[.int .i64 sq, .string pv, .int .i64 kd, .int .i64 dv, .slice none 0 0, .string tg]] W fun e w' => e = .returned (.string P) ∧ W.grownBy w' none) := fun W => by rw [← hP]; exact Mb.put_any ⟨sq, pv, kd, dv, [], tg⟩ none 0 W (WL.none _ _) (Nat.zero_le _)
  have HGe : Hid (∀ W, v1.grownBy W none → Calls Tryz.prog 13 #[.string P] W fun e w' => ∃ A6 c6, e = .returned (.tuple #[.agg #[.int .i64 sq, .string pv, .int .i64 kd, .int .i64 dv, .slice A6 0 c6, .string tg], .bool true]) ∧ W.grownBy w' none) := fun W hW => by
    rw [← hP]
    refine (get_put ⟨sq, pv, kd, dv, [], tg⟩ HM.out W (HR1.out W hW).2.2).mono fun e w' h => ?_
    obtain ⟨A, c, e1, _, _, h4⟩ := h
    exact ⟨A, c, e1, h4⟩
  have HHs : Hid (∀ W, Calls Tryz.prog 16 #[.agg #[.int .i64 sq, .string pv, .int .i64 kd, .int .i64 dv, .slice none 0 0, .string tg]] W fun e w' => e = .returned (.string (hashB ⟨sq, pv, kd, dv, [], tg⟩)) ∧ W.grownBy w' none) := fun W => refHash_any ⟨sq, pv, kd, dv, [], tg⟩ none 0 W (WL.none _ _) (Nat.zero_le _)
  have HSm : Hid (∀ A6 c6 W, Calls Tryz.prog 15 #[.agg #[.int .i64 sq, .string pv, .int .i64 kd, .int .i64 dv, .slice A6 0 c6, .string tg], .agg #[.int .i64 sq, .string pv, .int .i64 kd, .int .i64 dv, .slice none 0 0, .string tg]] W fun e w' => e = .returned (.bool true) ∧ W.grownBy w' none) := fun A6 c6 W => (refSame_any ⟨sq, pv, kd, dv, [], tg⟩ ⟨sq, pv, kd, dv, [], tg⟩ A6 none c6 0 W (WL.none _ _) (WL.none _ _) (Nat.zero_le _)).mono fun _ _ h => h.yes rfl
  have HT : Hid (IntKind.i64.wrap a1 = a1 ∧ a1.tmod (N : Int) = (K : Int) ∧ IntKind.i64.wrap (K : Int) = (K : Int)) := ⟨by rw [IntKind.wrap_i64]; have := Hn1.out; omega, by rw [Int.tmod_eq_emod_of_nonneg Hn1.out.1, hK], by rw [IntKind.wrap_i64]; omega⟩
  have Hbk : Hid ((K : Int) < (N : Int)) := by show _ < _; omega
  clear hP hown hch hbr hN hN40 hB hRL g1 hmay hr hK hK2 h1N
  go_wp2_with fail
  refine (HCk.out _ (gb_refl _ _)).mono ?_
  rintro e v2 ⟨rfl, g2⟩
  have HG2 := Lib.hid g2
  clear g2
  obtain ⟨t1, t2, t4⟩ := HT.out
  have t3 : ¬ (N : Int) = 0 := by have := HN1.out; omega
  have t3b : ¬ N = 0 := by have := HN1.out; omega
  go_upto_region 5 with fail
  clear t1 t2 t3 t3b t4
  have bk := Hbk.out
  obtain ⟨y0, y1, y2, y3, y4, y5⟩ := HC.out v2 HG2.out
  go_wp2_with fail
  refine (HPu.out v2).mono ?_
  rintro e v3 ⟨rfl, g3⟩
  have HG3 := Lib.hid (gb_none HG2.out g3)
  clear g3 y0 y1 y2 y3 y4 y5
  go_wp2_with fail
  refine (HGe.out v3 HG3.out).mono ?_
  rintro e v4 ⟨A6, c6, rfl, g4⟩
  obtain ⟨b6, hb6⟩ : ∃ b6, v4.heap.size = b6 := ⟨_, rfl⟩
  have Hnm : Hid (v1.grownBy (v4.alloc (.cells #[.int .i64 sq, .string pv, .int .i64 kd, .int .i64 dv, .slice A6 0 c6, .string tg] 26)) none ∧ Row (v4.alloc (.cells #[.int .i64 sq, .string pv, .int .i64 kd, .int .i64 dv, .slice A6 0 c6, .string tg] 26)) b6 26 #[.int .i64 sq, .string pv, .int .i64 kd, .int .i64 dv, .slice A6 0 c6, .string tg]) := ⟨gb_alloc (gb_none HG3.out g4) _, by rw [← hb6]; exact Row.new _ _ _⟩
  clear g4
  go_upto_region 6 with fail
  refine Td.named (fun W' => v1.grownBy W' none ∧ Row W' b6 26 #[.int .i64 sq, .string pv, .int .i64 kd, .int .i64 dv, .slice A6 0 c6, .string tg]) Hnm.out ?_
  clear Hnm hb6
  rintro W6 ⟨k1, k2⟩
  have HG6 := Lib.hid k1
  have HX : Hid (∀ W, W6.grownBy W none → W.cell? ⟨b6, 0, none⟩ = some (.int .i64 sq) ∧ W.cell? ⟨b6, 1, none⟩ = some (.string pv) ∧ W.cell? ⟨b6, 2, none⟩ = some (.int .i64 kd) ∧ W.cell? ⟨b6, 3, none⟩ = some (.int .i64 dv) ∧ W.cell? ⟨b6, 4, none⟩ = some (.slice A6 0 c6) ∧ W.cell? ⟨b6, 5, none⟩ = some (.string tg)) := fun W hW => ⟨(k2.kept hW (by simp)).at_ (i := 0) rfl, (k2.kept hW (by simp)).at_ (i := 1) rfl, (k2.kept hW (by simp)).at_ (i := 2) rfl, (k2.kept hW (by simp)).at_ (i := 3) rfl, (k2.kept hW (by simp)).at_ (i := 4) rfl, (k2.kept hW (by simp)).at_ (i := 5) rfl⟩
  clear k1 k2 bk
  apply wp_region_told (le := fun a b => a.grownBy b none) [isV _, isV _, isV _, isV _, isV _, isV _, isV _, isV _, isV _, isV _, isV _]
  case hn => rfl
  case hm => kernel_rfl
  case hB => kernel_rfl
  case ht => exact fun _ _ _ h k => gb_none h k
  case hw => exact gb_drew (gb_refl _ _)
  -- 0: law.go:72 move
  apply told_is
  · intro W f hW hE h0 K hK
    have e10 := h0 10 (by kernel_rfl)
    conv at e10 => rhs; whnf
    clear hE h0
    refine yes_of (want_free rfl) ?_
    go_simp; exact hK _ _ (gb_refl _ _) rfl
  -- 1: law.go:72 unOp
  apply told_is
  · intro W f hW hE h0 K hK
    have e31 : f 31 = _ := hE 0 31 _ rfl (by kernel_rfl)
    clear hE h0
    refine yes_of (want_free rfl) ?_
    go_simp; exact hK _ _ (gb_refl _ _) rfl
  -- 2: law.go:72 move
  apply told_is
  · intro W f hW hE h0 K hK
    have e32 : f 32 = _ := hE 0 32 _ rfl (by kernel_rfl)
    clear hE h0
    refine yes_of (want_free rfl) ?_
    go_simp; exact hK _ _ (gb_refl _ _) rfl
  -- 3: law.go:72 load
  apply told_is
  · intro W f hW hE h0 K hK
    have e9 := h0 9 (by kernel_rfl)
    conv at e9 => rhs; whnf
    have e33 : f 33 = _ := hE 0 33 _ rfl (by kernel_rfl)
    clear hE h0
    refine yes_of (want_yes rfl rfl e33) ?_
    obtain ⟨x0, x1, x2, x3, x4, x5⟩ := HX.out W hW
    go_simp; exact hK _ _ (gb_refl _ _) rfl
  -- 4: law.go:72 move
  apply told_is
  · intro W f hW hE h0 K hK
    have e7 := h0 7 (by kernel_rfl)
    conv at e7 => rhs; whnf
    have e33 : f 33 = _ := hE 1 33 _ rfl (by kernel_rfl)
    clear hE h0
    refine yes_of (want_yes rfl rfl e33) ?_
    go_simp; exact hK _ _ (gb_refl _ _) rfl
  -- 5: law.go:72 move
  apply told_is
  · intro W f hW hE h0 K hK
    have e8 := h0 8 (by kernel_rfl)
    conv at e8 => rhs; whnf
    have e33 : f 33 = _ := hE 2 33 _ rfl (by kernel_rfl)
    clear hE h0
    refine yes_of (want_yes rfl rfl e33) ?_
    go_simp; exact hK _ _ (gb_refl _ _) rfl
  -- 6: law.go:72 indexAddr
  apply told_is
  · intro W f hW hE h0 K hK
    have e35 : f 35 = _ := hE 1 35 _ rfl (by kernel_rfl)
    have e36 : f 36 = _ := hE 0 36 _ rfl (by kernel_rfl)
    have e33 : f 33 = _ := hE 3 33 _ rfl (by kernel_rfl)
    clear hE h0
    refine yes_of (want_yes rfl rfl e33) ?_
    have q1 := Hbk.out
    go_simp; exact hK _ _ (gb_refl _ _) rfl
  -- 7: law.go:72 load
  apply told_is
  · intro W f hW hE h0 K hK
    have e37 : f 37 = _ := hE 0 37 _ rfl (by kernel_rfl)
    have e33 : f 33 = _ := hE 4 33 _ rfl (by kernel_rfl)
    clear hE h0
    refine yes_of (want_yes rfl rfl e33) ?_
    obtain ⟨y0, y1, y2, y3, y4, y5⟩ := HC.out W (gb_none HG6.out hW)
    go_simp; exact hK _ _ (gb_refl _ _) rfl
  -- 8: law.go:72 call
  apply told_is
  · intro W f hW hE h0 K hK
    have e34 : f 34 = _ := hE 4 34 _ rfl (by kernel_rfl)
    have e38 : f 38 = _ := hE 0 38 _ rfl (by kernel_rfl)
    have e33 : f 33 = _ := hE 5 33 _ rfl (by kernel_rfl)
    clear hE h0
    refine yes_of (want_yes rfl rfl e33) ?_
    go_simp
    refine (HSm.out A6 c6 W).mono ?_
    rintro e w1' ⟨rfl, g'⟩
    exact ⟨_, rfl, hK _ _ g' rfl⟩
  -- 9: law.go:72 unOp
  apply told_is
  · intro W f hW hE h0 K hK
    have e39 : f 39 = _ := hE 0 39 _ rfl (by kernel_rfl)
    have e33 : f 33 = _ := hE 6 33 _ rfl (by kernel_rfl)
    clear hE h0
    refine yes_of (want_yes rfl rfl e33) ?_
    go_simp; exact hK _ _ (gb_refl _ _) rfl
  -- 10: law.go:72 pick
  apply told_is
  · intro W f hW hE h0 K hK
    have e33 : f 33 = _ := hE 7 33 _ rfl (by kernel_rfl)
    have e40 : f 40 = _ := hE 0 40 _ rfl (by kernel_rfl)
    clear hE h0
    refine yes_of (want_free rfl) ?_
    go_simp; exact hK _ _ (gb_refl _ _) rfl
  intro W f hW hA
  simp only [lexIn, Act.put, List.setIfInBounds_toArray, List.set_cons_zero, List.set_cons_succ]
  have e41 : f 41 = _ := hA 0 (some 41) _ rfl
  rw [e41]
  clear hA
  have HGW := Lib.hid (gb_none HG6.out hW)
  clear hW
  generalize W = W7 at *
  go_upto_region 8 with fail
  have Hbare : Hid (Bare C) := rl_bare (HRL.out v1 (gb_refl _ _))
  have Hown : Hid ((W7.alloc (.cells #[] 26)).ownsRow W7.heap.size 26 6 (.slice (some ⟨W7.heap.size, 0, none⟩) 0 0) 0 (bv [])) := own_new W7 [] 0 #[] rfl rfl (by decide)
  have Hnews : Hid (∀ (j : Nat) (u : Value), (bv C)[j]? = some u → (W7.alloc (.cells #[] 26)).cell? ((⟨g, 0, none⟩ : Addr).add j) = some u) := rl_news (HRL.out _ (gb_alloc HGW.out _))
  have Hbl : Hid ((bv C).length = N * 6) := by show _ = _; rw [bv_len, HN.out]
  have hgs : W7.heap.size ≤ (W7.alloc (.cells #[] 26)).heap.size := (gb_alloc (gb_refl _ none) _).size
  go_upto_region 9 with (at_builtin; go_must (refine wpList_append_own_at _ rfl (.tmp 42) (.tmp 43) 22 rfl W7.heap.size 26 i0 (.agg #[.int .i64 0, .string ⟨#[]⟩, .int .i64 0, .int .i64 0, .slice none 0 0, .string ⟨#[]⟩]) 6 80 Tryz.underlying22 Hi0.out Hz0.out Hz1.out Hz2.out rfl (by decide) _ 0 (bv []) rfl Hown.out ⟨g, 0, none⟩ N c9 (bv C) rfl Hbl.out Hnews.out (bv_one C) (by have := HN1.out; simp only [maxLen]; omega) (by have := HN1.out; omega) hgs ?_); intro v8 w8 own8 hgrow _ _; have Hown8 := Lib.hid own8; have Hg8 := Lib.hid hgrow; clear own8 hgrow)
  have HG8 : Hid (v1.grownBy w8 none) := gb_new (gb_alloc HGW.out _) Hg8.out HGW.out.size
  have hown8 : w8.ownsRow W7.heap.size 26 6 v8 N (bv C) := by have h := Hown8.out; rw [Nat.zero_add] at h; exact h
  obtain ⟨g8, c8, rfl, hB8, hRL8⟩ := own_rowlog hown8 HN.out (by have := HN1.out; omega) Hbare.out
  have HB8 : Hid (v1.heap.size ≤ g8) := Nat.le_trans HGW.out.size hB8
  have HRL8 : Hid (∀ W, w8.grownBy W none → RowLog W g8 c8 C) := fun W hW => hRL8.keep hW (by simp)
  have HC8 : Hid (∀ W, w8.grownBy W none → W.cell? ⟨g8, K * 6, none⟩ = some (.int .i64 sq) ∧ W.cell? ⟨g8, K * 6 + 1, none⟩ = some (.string pv) ∧ W.cell? ⟨g8, K * 6 + 2, none⟩ = some (.int .i64 kd) ∧ W.cell? ⟨g8, K * 6 + 3, none⟩ = some (.int .i64 dv) ∧ W.cell? ⟨g8, K * 6 + 4, none⟩ = some (.slice none 0 0) ∧ W.cell? ⟨g8, K * 6 + 5, none⟩ = some (.string tg)) := fun W hW => ⟨(HRL8.out W hW).cell Hr.out 0 (by decide), (HRL8.out W hW).cell Hr.out 1 (by decide), (HRL8.out W hW).cell Hr.out 2 (by decide), (HRL8.out W hW).cell Hr.out 3 (by decide), (HRL8.out W hW).cell Hr.out 4 (by decide), (HRL8.out W hW).cell Hr.out 5 (by decide)⟩
  have HF8 : Hid (∀ W, w8.grownBy W none → ∀ j, W.frozen? ⟨g8, j, none⟩ = false) := fun W hW j => (HRL8.out W hW).free j
  clear Hown Hnews Hbl hgs Hg8 Hown8 hown8 hRL8 hB8
  generalize w8 = W8 at *
  obtain ⟨m, hm, hm7⟩ : ∃ m : Nat, a2 % 7 = (m : Int) ∧ m < 7 := ⟨(a2 % 7).toNat, by omega, by omega⟩
  have Hm7 := Lib.hid hm7
  have s1 : a2.tmod 7 = (m : Int) := by rw [Int.tmod_eq_emod_of_nonneg Hn2.out.1, hm]
  have s2 : IntKind.u8.wrap (m : Int) = (m : Int) := by rw [IntKind.wrap_u8']; omega
  clear hm hm7
  go_upto_block 0 with fail
  clear s1 s2
  go_cut [11] (fun lv wx => MadeR v1 lv wx)
  case first =>
    rcases (show m = 0 ∨ m = 1 ∨ m = 2 ∨ m = 3 ∨ m = 4 ∨ m = 5 ∨ m = 6 by have := Hm7.out; omega) with rfl | rfl | rfl | rfl | rfl | rfl | rfl
    · have q1 : IntKind.i64.wrap (3 - kd) = 3 - kd := by rw [IntKind.wrap_i64]; have := HM.out.1.2.2.2.1; simp only at this; omega
      obtain ⟨z0, z1, z2, z3, z4, z5⟩ := HC8.out W8 (gb_refl _ _)
      have f2 : W8.frozen? ⟨g8, K * 6 + 2, none⟩ = false := HF8.out W8 (gb_refl _ _) (K * 6 + 2)
      have bk := Hbk.out
      go_wp2_with fail
      go_meet
      exact made_set (t := ⟨sq, pv, 3 - kd, dv, [], tg⟩) (j := 2) (HRL8.out W8 (gb_refl _ _)) HN.out Hr.out (by decide) rfl rfl HG8.out HB8.out
    · obtain ⟨dd, hdd⟩ : ∃ dd, dv + 1 = dd := ⟨_, rfl⟩
      have hd1 : 0 ≤ dd ∧ dd ≤ 8 := by have := HM.out.1.2.2.2.2; simp only at this; omega
      obtain ⟨d9, hd9⟩ : ∃ d9, dd % 8 = d9 := ⟨_, rfl⟩
      have q1 : IntKind.i64.wrap (dv + 1) = dd := by rw [IntKind.wrap_i64]; omega
      have q2 : dd.tmod 8 = d9 := by rw [Int.tmod_eq_emod_of_nonneg hd1.1, hd9]
      have q3 : IntKind.i64.wrap d9 = d9 := by rw [IntKind.wrap_i64]; omega
      clear hdd hd1 hd9
      obtain ⟨z0, z1, z2, z3, z4, z5⟩ := HC8.out W8 (gb_refl _ _)
      have f3 : W8.frozen? ⟨g8, K * 6 + 3, none⟩ = false := HF8.out W8 (gb_refl _ _) (K * 6 + 3)
      have bk := Hbk.out
      go_wp2_with fail
      go_meet
      exact made_set (t := ⟨sq, pv, kd, d9, [], tg⟩) (j := 3) (HRL8.out W8 (gb_refl _ _)) HN.out Hr.out (by decide) rfl rfl HG8.out HB8.out
    · have q1 : IntKind.i64.wrap (sq + 1) = sq + 1 := by rw [IntKind.wrap_i64]; have h1 := HM.out.1.1; have h2 := HM.out.1.2.1; simp only at h1 h2; omega
      obtain ⟨z0, z1, z2, z3, z4, z5⟩ := HC8.out W8 (gb_refl _ _)
      have f0 : W8.frozen? ⟨g8, K * 6, none⟩ = false := HF8.out W8 (gb_refl _ _) (K * 6)
      have bk := Hbk.out
      go_wp2_with fail
      go_meet
      exact made_set (t := ⟨sq + 1, pv, kd, dv, [], tg⟩) (j := 0) (HRL8.out W8 (gb_refl _ _)) HN.out Hr.out (by decide) rfl rfl HG8.out HB8.out
    · obtain ⟨y0, y1, y2, y3, y4, y5⟩ := HC.out W8 HG8.out
      have bk := Hbk.out
      go_wp2_with fail
      refine (HHs.out W8).mono ?_
      rintro e w9 ⟨rfl, g9⟩
      have Hg9 := Lib.hid g9
      clear g9 y0 y1 y2 y3 y4 y5
      have z1 := (HC8.out w9 Hg9.out).2.1
      have f1 : w9.frozen? ⟨g8, K * 6 + 1, none⟩ = false := HF8.out w9 Hg9.out (K * 6 + 1)
      go_wp2_with fail
      go_meet
      exact made_set (t := ⟨sq, hashB ⟨sq, pv, kd, dv, [], tg⟩, kd, dv, [], tg⟩) (j := 1) (HRL8.out w9 Hg9.out) HN.out Hr.out (by decide) rfl rfl (gb_none HG8.out Hg9.out) HB8.out
    · obtain ⟨K1, hK1⟩ : ∃ K1, K + 1 = K1 := ⟨_, rfl⟩
      have HKe : Hid (K + 1 = K1) := hK1
      have HK1 : Hid (IntKind.i64.wrap ((K : Int) + 1) = (K1 : Int)) := by show _ = _; rw [IntKind.wrap_i64]; have := HN1.out; have := HK2.out; omega
      have Hc8 : Hid (N ≤ c8) := by show _ ≤ _; have := rl_le (HRL8.out W8 (gb_refl _ _)); have := HN.out; omega
      obtain ⟨o9, ho9⟩ : ∃ o9, (if c8 = K1 then 0 else 0 + K1 * 6) = o9 := ⟨_, rfl⟩
      have Ho9 := Lib.hid ho9
      have HCutA : Hid (∀ W, (Instr.slice 22 (.slice (some ⟨g8, 0, none⟩) N c8) none (some (.int .i64 (K : Int))) none).run Tryz.prog W = .ok (.slice (some ⟨g8, 0, none⟩) K c8) W) := fun W => cut_log g8 0 N c8 K W (by have := Hc8.out; have := HK2.out; omega)
      have HCutB : Hid (∀ W, (Instr.slice 22 (.slice (some ⟨g8, 0, none⟩) N c8) (some (.int .i64 (K1 : Int))) none none).run Tryz.prog W = .ok (.slice (some ⟨g8, o9, none⟩) (N - K1) (c8 - K1)) W) := fun W => by rw [← ho9]; exact cut_back g8 0 N c8 K1 W (by have := HK2.out; omega)
      clear hK1 ho9
      go_upto_region 20 with fail
      apply Tm.wp_region_told_list (le := fun a b => a.grownBy b none) 7 [isV _, isV _, isV _, isV _, isV _, isV _, isV _]
      case hC => kernel_rfl
      case hlen => rfl
      case hn => rfl
      case hm => kernel_rfl
      case hB => kernel_rfl
      case ht => exact fun _ _ _ h k => gb_none h k
      case hw => exact gb_drew (gb_refl _ _)
      -- 0: law.go:86 move
      apply Tm.head_is
      · intro W f hW hE h0 K hK
        have e11 := h0 11 (by kernel_rfl)
        conv at e11 => rhs; whnf
        clear hE h0
        refine yes_of (want_free rfl) ?_
        go_simp; exact hK _ _ (gb_refl _ _) rfl
      -- 1: law.go:86 move
      apply Tm.head_is
      · intro W f hW hE h0 K hK
        have e8 := h0 8 (by kernel_rfl)
        conv at e8 => rhs; whnf
        clear hE h0
        refine yes_of (want_free rfl) ?_
        go_simp; exact hK _ _ (gb_refl _ _) rfl
      -- 2: law.go:86 slice
      apply Tm.head_is
      · intro W f hW hE h0 K hK
        have e101 : f 101 = _ := hE 1 101 _ rfl (by kernel_rfl)
        have e102 : f 102 = _ := hE 0 102 _ rfl (by kernel_rfl)
        clear hE h0
        refine yes_of (want_free rfl) ?_
        have q1 := HCutA.out W
        go_simp; exact hK _ _ (gb_refl _ _) rfl
      -- 3: law.go:86 move
      apply Tm.head_is
      · intro W f hW hE h0 K hK
        have e11 := h0 11 (by kernel_rfl)
        conv at e11 => rhs; whnf
        clear hE h0
        refine yes_of (want_free rfl) ?_
        go_simp; exact hK _ _ (gb_refl _ _) rfl
      -- 4: law.go:86 move
      apply Tm.head_is
      · intro W f hW hE h0 K hK
        have e8 := h0 8 (by kernel_rfl)
        conv at e8 => rhs; whnf
        clear hE h0
        refine yes_of (want_free rfl) ?_
        go_simp; exact hK _ _ (gb_refl _ _) rfl
      -- 5: law.go:86 binOp
      apply Tm.head_is
      · intro W f hW hE h0 K hK
        have e105 : f 105 = _ := hE 0 105 _ rfl (by kernel_rfl)
        clear hE h0
        refine yes_of (want_free rfl) ?_
        have q1 := HK1.out
        go_simp; exact hK _ _ (gb_refl _ _) rfl
      -- 6: law.go:86 slice
      apply Tm.head_is
      · intro W f hW hE h0 K hK
        have e104 : f 104 = _ := hE 2 104 _ rfl (by kernel_rfl)
        have e106 : f 106 = _ := hE 0 106 _ rfl (by kernel_rfl)
        clear hE h0
        refine yes_of (want_free rfl) ?_
        have q1 := HCutB.out W
        go_simp; exact hK _ _ (gb_refl _ _) rfl
      intro W f hW hA
      simp only [List.take_succ_cons, List.take_zero, List.drop_succ_cons, List.drop_zero, lexIn, Act.put, List.setIfInBounds_toArray, List.set_cons_zero, List.set_cons_succ]
      have e103 : f 103 = _ := hA 4 (some 103) _ rfl
      rw [e103]
      have e107 : f 107 = _ := hA 0 (some 107) _ rfl
      rw [e107]
      clear hA
      refine wpList_append_room rfl (.tmp 103) (.tmp 107) 22 rfl 26 i0 6 Tryz.underlying22 Hi0.out Hz1.out g8 K c8 ⟨g8, o9, none⟩ (N - K1) (c8 - K1) (bv (C.drop (K + 1))) rfl rfl (by rw [bv_len, List.length_drop, HN.out, HKe.out]) (news_back (HRL8.out W hW) (by have := Hc8.out; have := HN.out; omega) HKe.out Ho9.out) (bv_one _) (by have := Hc8.out; have := HKe.out; have := HK2.out; omega) (fun j hj => rl_some_ (HRL8.out W hW) _ (by rw [bv_len, List.length_drop, HN.out] at hj; have := Hc8.out; have := HK2.out; omega)) (fun j hj => (HRL8.out W hW).free _) ?_
      go_wp2_with fail
      go_meet
      exact made_del (HRL8.out W hW) HN.out HK2.out HKe.out (gb_none HG8.out hW) HB8.out
    · obtain ⟨z0, z1, z2, z3, z4, z5⟩ := HC8.out W8 (gb_refl _ _)
      have f5 : W8.frozen? ⟨g8, K * 6 + 5, none⟩ = false := HF8.out W8 (gb_refl _ _) (K * 6 + 5)
      have bk := Hbk.out
      go_wp2_with fail
      go_meet
      exact made_set (t := ⟨sq, pv, kd, dv, [], ⟨#[102, 101, 100, 99, 98, 97, 57, 56, 55, 54, 53, 52, 51, 50, 49, 48]⟩⟩) (j := 5) (HRL8.out W8 (gb_refl _ _)) HN.out Hr.out (by decide) rfl rfl HG8.out HB8.out
    · have HgB : Hid (W8.grownBy (W8.alloc (.cells #[.int .i64 3, .string ⟨#[120]⟩] 37)) none) := gb_alloc (gb_refl _ _) _
      have z4 := (HC8.out _ HgB.out).2.2.2.2.1
      have f4 : (W8.alloc (.cells #[.int .i64 3, .string ⟨#[120]⟩] 37)).frozen? ⟨g8, K * 6 + 4, none⟩ = false := HF8.out _ HgB.out (K * 6 + 4)
      have bk := Hbk.out
      go_wp2_with fail
      go_meet
      exact made_wrap (HRL8.out _ HgB.out) HN.out Hr.out (Row.new W8 37 _) (fun e => by have := rl_lt (HRL8.out W8 (gb_refl _ _)); omega) (gb_none HG8.out HgB.out) HB8.out
  case rest =>
    obtain ⟨l', A, n, c, rfl, hc, hL, hb, hgl⟩ := hcut
    have HL := Lib.hid hL
    have Hb := Lib.hid hb
    have Hc := Lib.hid hc
    have Hgl := Lib.hid hgl
    clear hL hb hc hgl
    generalize wc = W9 at *
    by_cases hch : ChainR l'
    · go_wp2_with fail
      refine (check_log A n c l' W9 HL.out Hb.out (HR1.out W9 Hgl.out).1 (HR1.out W9 Hgl.out).2.1).mono ?_
      intro e w1 hh
      obtain ⟨he, g1⟩ := hh.yes hch
      subst he
      clear hh
      go_wp2_with fail
      refine (refCheck_any A n c l' w1 (HL.out.keep g1) Hc.out Hb.out).mono ?_
      intro e w2 hh
      obtain ⟨he, g2⟩ := hh.yes hch
      subst he
      clear hh
      have Hg2 := Lib.hid (gb_none HG1.out (gb_none Hgl.out (gb_none g1 g2)))
      clear g1 g2
      go_wp2_with fail
      refine (HAw.out w2 Hg2.out).mono ?_
      rintro e wz ⟨rfl, gz⟩
      go_wp2_with fail
      go_ret
      exact ⟨rfl, gb_below (gb_none Hg2.out gz) (Nat.le_refl _)⟩
    · go_wp2_with fail
      refine (check_log A n c l' W9 HL.out Hb.out (HR1.out W9 Hgl.out).1 (HR1.out W9 Hgl.out).2.1).mono ?_
      intro e w1 hh
      obtain ⟨he, g1⟩ := hh.no hch
      subst he
      clear hh
      go_wp2_with fail
      refine (refCheck_any A n c l' w1 (HL.out.keep g1) Hc.out Hb.out).mono ?_
      intro e w2 hh
      obtain ⟨he, g2⟩ := hh.no hch
      subst he
      clear hh
      have Hg2 := Lib.hid (gb_none HG1.out (gb_none Hgl.out (gb_none g1 g2)))
      clear g1 g2
      go_wp2_with fail
      refine (HAw.out w2 Hg2.out).mono ?_
      rintro e wz ⟨rfl, gz⟩
      go_wp2_with fail
      go_ret
      exact ⟨rfl, gb_below (gb_none Hg2.out gz) (Nat.le_refl _)⟩

theorem star : "*" ++ "errors.errorString" = "*errors.errorString" := by decide
theorem row_err (u : TypeId) (h : Tryz.prog.typeName? 3 u = some "*errors.errorString") : u = 168 :=
  typeName_ptr_named (nm := "errors.errorString") (by rw [star]; kernel_rfl) (by kernel_rfl) (by decide) u (by rw [star]; exact h)
theorem two0_1 {W : World} (h : laidMetH Tryz.prog Rows.memberMadeRow.laid W) : Sn.Two W 0 1 := by
  have h4 : laidMet Tryz.prog [("deaddrop/member.errMany", Rows.laid_deaddrop_member_errMany), ("deaddrop/member.errRecord", Rows.laid_deaddrop_member_errRecord)] W := (laidMetH_iff.1 (laidMetH.filter (fun x => x.1 == "deaddrop/member.errMany" || x.1 == "deaddrop/member.errRecord") h)).1
  obtain ⟨a0, a1, s0, s1, c0, c1, t0, t1, hv0, hv1, hc0, hs0, hz0, hc1, hs1, hz1, hne, hb0, hb1⟩ := laid_sentinels2 h4 (g0 := 0) (g1 := 1) (ti := 45) (by kernel_rfl) (by kernel_rfl) (by kernel_rfl) (by kernel_rfl) Tryz.underlying45 row_err Tryz.underlying168 Tryz.underlying187 rfl rfl Tryz.underlying9 (by kernel_rfl) (by kernel_rfl)
  exact ⟨a0, a1, c0, c1, t0, t1, by simpa using World.var?_cell (g := 0) (by kernel_rfl) hv0 0, by simpa using World.var?_cell (g := 1) (by kernel_rfl) hv1 0, hne, hb0, hb1⟩
theorem two2_3 {W : World} (h : laidMetH Tryz.prog Rows.memberMadeRow.laid W) : Sn.Two W 2 3 := by
  have h4 : laidMet Tryz.prog [("deaddrop/member.errSeq", Rows.laid_deaddrop_member_errSeq), ("deaddrop/member.errPrev", Rows.laid_deaddrop_member_errPrev)] W := (laidMetH_iff.1 (laidMetH.filter (fun x => x.1 == "deaddrop/member.errSeq" || x.1 == "deaddrop/member.errPrev") h)).1
  obtain ⟨a0, a1, s0, s1, c0, c1, t0, t1, hv0, hv1, hc0, hs0, hz0, hc1, hs1, hz1, hne, hb0, hb1⟩ := laid_sentinels2 h4 (g0 := 2) (g1 := 3) (ti := 45) (by kernel_rfl) (by kernel_rfl) (by kernel_rfl) (by kernel_rfl) Tryz.underlying45 row_err Tryz.underlying168 Tryz.underlying187 rfl rfl Tryz.underlying9 (by kernel_rfl) (by kernel_rfl)
  exact ⟨a0, a1, c0, c1, t0, t1, by simpa using World.var?_cell (g := 2) (by kernel_rfl) hv0 0, by simpa using World.var?_cell (g := 3) (by kernel_rfl) hv1 0, hne, hb0, hb1⟩
theorem two4_5 {W : World} (h : laidMetH Tryz.prog Rows.memberMadeRow.laid W) : Sn.Two W 4 5 := by
  have h4 : laidMet Tryz.prog [("deaddrop/member.errFirst", Rows.laid_deaddrop_member_errFirst), ("deaddrop/member.errHave", Rows.laid_deaddrop_member_errHave)] W := (laidMetH_iff.1 (laidMetH.filter (fun x => x.1 == "deaddrop/member.errFirst" || x.1 == "deaddrop/member.errHave") h)).1
  obtain ⟨a0, a1, s0, s1, c0, c1, t0, t1, hv0, hv1, hc0, hs0, hz0, hc1, hs1, hz1, hne, hb0, hb1⟩ := laid_sentinels2 h4 (g0 := 4) (g1 := 5) (ti := 45) (by kernel_rfl) (by kernel_rfl) (by kernel_rfl) (by kernel_rfl) Tryz.underlying45 row_err Tryz.underlying168 Tryz.underlying187 rfl rfl Tryz.underlying9 (by kernel_rfl) (by kernel_rfl)
  exact ⟨a0, a1, c0, c1, t0, t1, by simpa using World.var?_cell (g := 4) (by kernel_rfl) hv0 0, by simpa using World.var?_cell (g := 5) (by kernel_rfl) hv1 0, hne, hb0, hb1⟩
theorem two6_7 {W : World} (h : laidMetH Tryz.prog Rows.memberMadeRow.laid W) : Sn.Two W 6 7 := by
  have h4 : laidMet Tryz.prog [("deaddrop/member.errNone", Rows.laid_deaddrop_member_errNone), ("deaddrop/member.errStay", Rows.laid_deaddrop_member_errStay)] W := (laidMetH_iff.1 (laidMetH.filter (fun x => x.1 == "deaddrop/member.errNone" || x.1 == "deaddrop/member.errStay") h)).1
  obtain ⟨a0, a1, s0, s1, c0, c1, t0, t1, hv0, hv1, hc0, hs0, hz0, hc1, hs1, hz1, hne, hb0, hb1⟩ := laid_sentinels2 h4 (g0 := 6) (g1 := 7) (ti := 45) (by kernel_rfl) (by kernel_rfl) (by kernel_rfl) (by kernel_rfl) Tryz.underlying45 row_err Tryz.underlying168 Tryz.underlying187 rfl rfl Tryz.underlying9 (by kernel_rfl) (by kernel_rfl)
  exact ⟨a0, a1, c0, c1, t0, t1, by simpa using World.var?_cell (g := 6) (by kernel_rfl) hv0 0, by simpa using World.var?_cell (g := 7) (by kernel_rfl) hv1 0, hne, hb0, hb1⟩
theorem et : Tryz.prog.globalNamed "errors.errorType" = some 9 := by kernel_rfl
theorem rt : (Tryz.prog.cutTypes.find? (·.1 == "internal/reflectlite.rtype")).map (·.2) = some 126 := by kernel_rfl
theorem one_error : ((List.range 198).filter fun t => Tryz.prog.rowNamed t [101, 114, 114, 111, 114]) = [45] := by kernel_rfl
theorem how_many : Tryz.prog.types.size = 198 := by kernel_rfl
theorem handle : typeHandle Tryz.prog 45 = .pointer (some ⟨12, 45, none⟩) := by kernel_rfl
theorem errT {W : World} (h : laidMetH Tryz.prog Rows.memberMadeRow.laid W) : W.cell? ⟨9, 0, none⟩ = some (.iface 126 (.agg #[.pointer (some ⟨12, 45, none⟩)])) := by
  have hm : ("errors.errorType", Rows.laid_errors_errorType) ∈ (Rows.memberMadeRow.laid.filter fun x => x.2.handleName?.isSome) := List.mem_filter.2 ⟨List.Mem.tail _ (List.Mem.tail _ (List.Mem.head _)), by simp [DataW.handleName?, Rows.laid_errors_errorType]⟩
  obtain ⟨n, u, t, hn, hu, ht, hr, hc⟩ := (laidMetH_iff.1 h).2 _ hm
  obtain rfl := Option.some.inj hn
  obtain rfl := Option.some.inj (rt.symm.trans hu)
  have hin : t ∈ [45] := by
    rw [← one_error]
    exact List.mem_filter.2 ⟨List.mem_range.2 (how_many ▸ ht), hr⟩
  obtain rfl := List.mem_singleton.1 hin
  rw [handle] at hc
  have := World.var?_cell et hc 0
  simpa using this
theorem tabs {W : World} (h : laidMetH Tryz.prog Rows.memberMadeRow.laid W) : Tabs W := by
  have gh1 : laidMet Tryz.prog [("deaddrop/sha.opening", Rows.laid_deaddrop_sha_opening)] W := (laidMetH_iff.1 (laidMetH.filter (fun x => x.1 == "deaddrop/sha.opening") h)).1
  have h1 : Lib.TabIs Tryz.prog W "deaddrop/sha.opening" .u32 [1779033703, 3144134277, 1013904242, 2773480762, 1359893119, 2600822924, 528734635, 1541459225] := Lib.tabIs_of_head (rest := []) (g := 8) (t := 96) (e := 59) (n := 8) (by kernel_rfl) (by kernel_rfl) Tryz.underlying96 Tryz.underlying59 (by kernel_rfl) (by kernel_rfl) gh1
  have gh2 : laidMet Tryz.prog [("deaddrop/sha.roundNumbers", Rows.laid_deaddrop_sha_roundNumbers)] W := (laidMetH_iff.1 (laidMetH.filter (fun x => x.1 == "deaddrop/sha.roundNumbers") h)).1
  have h2 : Lib.TabIs Tryz.prog W "deaddrop/sha.roundNumbers" .u32 [1116352408, 1899447441, 3049323471, 3921009573, 961987163, 1508970993, 2453635748, 2870763221, 3624381080, 310598401, 607225278, 1426881987, 1925078388, 2162078206, 2614888103, 3248222580, 3835390401, 4022224774, 264347078, 604807628, 770255983, 1249150122, 1555081692, 1996064986, 2554220882, 2821834349, 2952996808, 3210313671, 3336571891, 3584528711, 113926993, 338241895, 666307205, 773529912, 1294757372, 1396182291, 1695183700, 1986661051, 2177026350, 2456956037, 2730485921, 2820302411, 3259730800, 3345764771, 3516065817, 3600352804, 4094571909, 275423344, 430227734, 506948616, 659060556, 883997877, 958139571, 1322822218, 1537002063, 1747873779, 1955562222, 2024104815, 2227730452, 2361852424, 2428436474, 2756734187, 3204031479, 3329325298] := Lib.tabIs_of_head (rest := []) (g := 10) (t := 156) (e := 59) (n := 64) (by kernel_rfl) (by kernel_rfl) Tryz.underlying156 Tryz.underlying59 (by kernel_rfl) (by kernel_rfl) gh2
  have e1 : ∀ i, i < 8 → ([1779033703, 3144134277, 1013904242, 2773480762, 1359893119, 2600822924, 528734635, 1541459225] : List Int).getD i 0 = ((firstH.getD i 0).toNat : Int) := by decide
  have e2 : ∀ i, i < 64 → ([1116352408, 1899447441, 3049323471, 3921009573, 961987163, 1508970993, 2453635748, 2870763221, 3624381080, 310598401, 607225278, 1426881987, 1925078388, 2162078206, 2614888103, 3248222580, 3835390401, 4022224774, 264347078, 604807628, 770255983, 1249150122, 1555081692, 1996064986, 2554220882, 2821834349, 2952996808, 3210313671, 3336571891, 3584528711, 113926993, 338241895, 666307205, 773529912, 1294757372, 1396182291, 1695183700, 1986661051, 2177026350, 2456956037, 2730485921, 2820302411, 3259730800, 3345764771, 3516065817, 3600352804, 4094571909, 275423344, 430227734, 506948616, 659060556, 883997877, 958139571, 1322822218, 1537002063, 1747873779, 1955562222, 2024104815, 2227730452, 2361852424, 2428436474, 2756734187, 3204031479, 3329325298] : List Int).getD i 0 = ((konst.getD i 0).toNat : Int) := by decide +kernel
  have c1 : ∀ i, i < 8 → W.cell? ⟨8, i, none⟩ = some (w32 (firstH.getD i 0)) := fun i hi => by
    have := h1.cell (g := 8) (by kernel_rfl) i hi
    rw [e1 i hi] at this; exact this
  have c2 : ∀ i, i < 64 → W.cell? ⟨10, i, none⟩ = some (w32 (konst.getD i 0)) := fun i hi => by
    have := h2.cell (g := 10) (by kernel_rfl) i hi
    rw [e2 i hi] at this; exact this
  exact ⟨block_lt_of_cell (c2 0 (by decide)), c1, c2⟩

set_option maxRecDepth 100000 in
theorem contract (H : Type) (enc : TypeId × Value → H) (W : World) (base : Nat) (args : Array Value) (ds gs : List (DataW H)) (before : List MemPlace)
    (hval0 : ∀ (j : Nat) t v, Tryz.f4.params[j]? = some t → args[j]? = some v → Value.okWide Tryz.prog W .any base t v)
    (hW : DataW.Whole enc Tryz.prog Tryz.f4.params.toList Rows.memberMadeSpec.vars false W args.toList ds gs before) (hL : laidMetH Tryz.prog Rows.memberMadeRow.laid W) :
    Calls Tryz.prog 4 args W fun e W' => ∃ v, e = .returned v ∧ Rows.memberMadeSpec.post enc Tryz.prog Tryz.f4 false true false false W args v W' := by
  have hval : ∀ (j : Nat) t v, Tryz.f4.params[j]? = some t → args[j]? = some v → Value.okWide Tryz.prog W .any base t v := hval0
  have hW' := hW
  obtain ⟨p, q, hA0, hV, rfl, hfz, hnd⟩ := hW
  have hA : DataW.TrodAll enc Tryz.prog W 0 (fun _ => true) true Tryz.f4.params.toList args.toList ds p := hA0
  rw [Tryz.params4] at hA hval
  obtain ⟨v0, vs0, d0, ds0, p0, q0, hargs, rfl, rfl, h0, r0⟩ := trodAll_cons hA
  obtain ⟨v1, vs1, d1, ds1, p1, q1, rfl, rfl, rfl, h1, r1⟩ := trodAll_cons r0
  obtain ⟨v2, vs2, d2, ds2, p2, q2, rfl, rfl, rfl, h2, r2⟩ := trodAll_cons r1
  obtain ⟨rfl, rfl, rfl⟩ := trodAll_nil r2
  obtain rfl : args = #[v0, v1, v2] := by cases args; simp_all
  obtain ⟨rfl, rfl⟩ := trodVars_none hV
  have k0 := h0
  have lt0 : ∀ x ∈ p0, x.block < W.heap.size := by obtain ⟨m, hm⟩ := k0; exact DataW.trod_lt m _ _ _ hm
  obtain ⟨a0, len0, cap0, rfl⟩ := okWide_slice Tryz.underlying30 (hval 0 30 v0 rfl rfl)
  obtain ⟨z0, w0⟩ : ∃ zs, IsRow .u8 W a0 len0 cap0 zs := by
    obtain ⟨fuel, hf⟩ := h0
    rcases open_ints Tryz.underlying30 Tryz.underlying5 (by kernel_rfl) hf with ⟨hcs, _⟩ | ⟨x, l, c, zs, hcs, _, hl, hm, hz, _, hcell, hwz⟩
    · simp [Value.cells] at hcs
      obtain ⟨rfl, rfl, rfl⟩ := hcs
      exact ⟨[], .inl ⟨rfl, rfl, rfl, rfl⟩⟩
    · simp [Value.cells] at hcs
      obtain ⟨rfl, rfl, rfl⟩ := hcs
      exact ⟨zs, .inr ⟨_, rfl, hl, hm, by simpa using hz, hcell, hwz⟩⟩
  obtain ⟨a1, rfl, rfl, rfl, w1⟩ := open_int Tryz.underlying5 (hval 1 5 v1 rfl rfl) h1
  obtain ⟨a2, rfl, rfl, rfl, w2⟩ := open_int Tryz.underlying5 (hval 2 5 v2 rfl rfl) h2
  clear hA0 hval0
  refine (walk a0 len0 cap0 z0 a1 a2 W w0 w1 w2 ⟨two0_1 hL, two2_3 hL, two4_5 hL, two6_7 hL⟩ (errT hL) (tabs hL)).mono fun e W' ⟨he, bel⟩ => ?_
  subst he
  exact ⟨_, rfl, _, _, _, [], _, [], hW', trodAll_mk1 (shut_bool Tryz.underlying4 _), (trodAll_cons_mk (Below.trod laidOut (by kernel_rfl) (of_decide_eq_true (by kernel_rfl)) k0 bel lt0) (trodAll_cons_mk (shut_int Tryz.underlying5 w1) (trodAll_cons_mk (shut_int Tryz.underlying5 w2) trodAll_mk0))), rfl, bel.frame _, fun h => by cases h⟩

def lay (cs : Array Value) : Obj → Obj
  | .cells _ t frozen => .cells cs t frozen
  | o => o
noncomputable def low : Nat := (World.holding Tryz.prog default ⟨#[], #[], []⟩).heap.size
noncomputable def laidWorld (os : Os) : World :=
  { World.holding Tryz.prog os ⟨#[.cells #[.string ⟨#[109, 111, 114, 101, 32, 116, 104, 97, 110, 32, 97, 32, 99, 104, 97, 105, 110, 32, 109, 97, 121, 32, 104, 97, 118, 101]⟩] 187, .cells #[.string ⟨#[105, 116, 32, 109, 97, 121, 32, 110, 111, 116, 32, 98, 101]⟩] 187, .cells #[.string ⟨#[110, 111, 116, 32, 116, 104, 101, 32, 111, 110, 101, 32, 98, 101, 104, 105, 110, 100, 32, 116, 104, 101, 32, 111, 110, 101, 32, 97, 104, 101, 97, 100]⟩] 187, .cells #[.string ⟨#[97, 110, 111, 116, 104, 101, 114, 32, 114, 101, 99, 111, 114, 100, 39, 115, 32, 104, 97, 115, 104, 32, 116, 104, 97, 110, 32, 116, 104, 97, 116, 32, 111, 102, 32, 116, 104, 101, 32, 111, 110, 101, 32, 97, 104, 101, 97, 100]⟩] 187, .cells #[.string ⟨#[116, 104, 101, 32, 102, 105, 114, 115, 116, 32, 114, 101, 99, 111, 114, 100, 32, 97, 100, 100, 115, 32, 100, 101, 118, 105, 99, 101, 32, 48]⟩] 187, .cells #[.string ⟨#[97, 100, 100, 101, 100, 32, 119, 104, 105, 108, 101, 32, 105, 116, 32, 105, 115, 32, 97, 32, 109, 101, 109, 98, 101, 114]⟩] 187, .cells #[.string ⟨#[114, 101, 118, 111, 107, 101, 100, 32, 119, 104, 105, 108, 101, 32, 105, 116, 32, 105, 115, 32, 110, 111, 32, 109, 101, 109, 98, 101, 114]⟩] 187, .cells #[.string ⟨#[105, 116, 32, 115, 116, 97, 121, 115, 32, 102, 111, 114, 32, 103, 111, 111, 100]⟩] 187], #[], []⟩ with heap := ((((((((((((World.holding Tryz.prog os ⟨#[.cells #[.string ⟨#[109, 111, 114, 101, 32, 116, 104, 97, 110, 32, 97, 32, 99, 104, 97, 105, 110, 32, 109, 97, 121, 32, 104, 97, 118, 101]⟩] 187, .cells #[.string ⟨#[105, 116, 32, 109, 97, 121, 32, 110, 111, 116, 32, 98, 101]⟩] 187, .cells #[.string ⟨#[110, 111, 116, 32, 116, 104, 101, 32, 111, 110, 101, 32, 98, 101, 104, 105, 110, 100, 32, 116, 104, 101, 32, 111, 110, 101, 32, 97, 104, 101, 97, 100]⟩] 187, .cells #[.string ⟨#[97, 110, 111, 116, 104, 101, 114, 32, 114, 101, 99, 111, 114, 100, 39, 115, 32, 104, 97, 115, 104, 32, 116, 104, 97, 110, 32, 116, 104, 97, 116, 32, 111, 102, 32, 116, 104, 101, 32, 111, 110, 101, 32, 97, 104, 101, 97, 100]⟩] 187, .cells #[.string ⟨#[116, 104, 101, 32, 102, 105, 114, 115, 116, 32, 114, 101, 99, 111, 114, 100, 32, 97, 100, 100, 115, 32, 100, 101, 118, 105, 99, 101, 32, 48]⟩] 187, .cells #[.string ⟨#[97, 100, 100, 101, 100, 32, 119, 104, 105, 108, 101, 32, 105, 116, 32, 105, 115, 32, 97, 32, 109, 101, 109, 98, 101, 114]⟩] 187, .cells #[.string ⟨#[114, 101, 118, 111, 107, 101, 100, 32, 119, 104, 105, 108, 101, 32, 105, 116, 32, 105, 115, 32, 110, 111, 32, 109, 101, 109, 98, 101, 114]⟩] 187, .cells #[.string ⟨#[105, 116, 32, 115, 116, 97, 121, 115, 32, 102, 111, 114, 32, 103, 111, 111, 100]⟩] 187], #[], []⟩).heap).modify 0 (lay #[.iface 168 (.pointer (some ⟨low, 0, none⟩))])).modify 1 (lay #[.iface 168 (.pointer (some ⟨low + 1, 0, none⟩))])).modify 2 (lay #[.iface 168 (.pointer (some ⟨low + 2, 0, none⟩))])).modify 3 (lay #[.iface 168 (.pointer (some ⟨low + 3, 0, none⟩))])).modify 4 (lay #[.iface 168 (.pointer (some ⟨low + 4, 0, none⟩))])).modify 5 (lay #[.iface 168 (.pointer (some ⟨low + 5, 0, none⟩))])).modify 6 (lay #[.iface 168 (.pointer (some ⟨low + 6, 0, none⟩))])).modify 7 (lay #[.iface 168 (.pointer (some ⟨low + 7, 0, none⟩))])).modify 9 (lay #[.iface 126 (.agg #[.pointer (some ⟨12, 45, none⟩)])])).modify 8 (lay #[.int .u32 1779033703, .int .u32 3144134277, .int .u32 1013904242, .int .u32 2773480762, .int .u32 1359893119, .int .u32 2600822924, .int .u32 528734635, .int .u32 1541459225])).modify 10 (lay #[.int .u32 1116352408, .int .u32 1899447441, .int .u32 3049323471, .int .u32 3921009573, .int .u32 961987163, .int .u32 1508970993, .int .u32 2453635748, .int .u32 2870763221, .int .u32 3624381080, .int .u32 310598401, .int .u32 607225278, .int .u32 1426881987, .int .u32 1925078388, .int .u32 2162078206, .int .u32 2614888103, .int .u32 3248222580, .int .u32 3835390401, .int .u32 4022224774, .int .u32 264347078, .int .u32 604807628, .int .u32 770255983, .int .u32 1249150122, .int .u32 1555081692, .int .u32 1996064986, .int .u32 2554220882, .int .u32 2821834349, .int .u32 2952996808, .int .u32 3210313671, .int .u32 3336571891, .int .u32 3584528711, .int .u32 113926993, .int .u32 338241895, .int .u32 666307205, .int .u32 773529912, .int .u32 1294757372, .int .u32 1396182291, .int .u32 1695183700, .int .u32 1986661051, .int .u32 2177026350, .int .u32 2456956037, .int .u32 2730485921, .int .u32 2820302411, .int .u32 3259730800, .int .u32 3345764771, .int .u32 3516065817, .int .u32 3600352804, .int .u32 4094571909, .int .u32 275423344, .int .u32 430227734, .int .u32 506948616, .int .u32 659060556, .int .u32 883997877, .int .u32 958139571, .int .u32 1322822218, .int .u32 1537002063, .int .u32 1747873779, .int .u32 1955562222, .int .u32 2024104815, .int .u32 2227730452, .int .u32 2361852424, .int .u32 2428436474, .int .u32 2756734187, .int .u32 3204031479, .int .u32 3329325298]) }
theorem laid_met (os : Os) : laidMetH Tryz.prog Rows.memberMadeRow.laid ((laidWorld os).forCall (fun _ _ => 0) ⟨#[], #[.slice none 0 0, .int .u8 0, .int .u8 0], []⟩).memory :=
  laidMetH_of_parts (laidMet_of_run' 8 (by kernel_rfl) (by kernel_rfl)) (by kernel_rfl)
theorem reads (os : Os) {H : Type} (enc : TypeId × Value → H) : ∃ places, DataW.whole enc Tryz.prog ((laidWorld os).forCall (fun _ _ => 0) ⟨#[], #[.slice none 0 0, .int .u8 0, .int .u8 0], []⟩).memory Tryz.f4.params.toList Rows.memberMadeSpec.vars false (show Array Value from #[.slice none 0 0, .int .u8 0, .int .u8 0]).toList 8 = some ([.nil, .lit (.int .u8 0), .lit (.int .u8 0)], [], places) :=
  ⟨[], by kernel_rfl⟩

set_option maxRecDepth 100000 in
theorem lifted (os : Os) (started : os.Started) (H : Type) (enc : TypeId × Value → H) (F : Stop.Interp) :
    ReturnsInHanded {} Tryz.checked os 4 .any ((OpenSpec.ofChange Rows.memberMadeSpec).preRow enc Tryz.prog Tryz.f4 Rows.memberMadeRow.domain false Rows.memberMadeRow.laid) (((OpenSpec.ofChange Rows.memberMadeSpec).at F).post enc Tryz.prog Tryz.f4 false true false false) := by
  obtain ⟨places, hx⟩ := reads os enc
  refine returnsInHanded_of_row (C := Tryz.checked) (s := OpenSpec.ofChange Rows.memberMadeSpec) own started (by kernel_rfl) Tryz.func4
    (witness_row_at (enc := enc) (C := Tryz.checked) false (laidWorld os) #[.slice none 0 0, .int .u8 0, .int .u8 0] rfl (by kernel_rfl) (by kernel_rfl) (by kernel_rfl)
      (OpenSpec.preRow_of_cond 8 hx (by kernel_rfl) (fun k hk => by cases hk) (by kernel_rfl) (laid_met os))) ?_
  intro W base args ds gs before hval hW _ _ _ hL _ _
  exact contract H enc W base args ds gs before hval hW hL

theorem said : Rows.MemberMadeSaid :=
  OpenClaim.holds_of_cond 4 Tryz.f4 rfl rfl rfl rfl rfl rfl rfl ⟨rfl, rfl, rfl, rfl, rfl⟩ rfl rfl rfl rfl rfl (by kernel_rfl) Tryz.func4 (by kernel_rfl)
    (of_decide_eq_true (by kernel_rfl)) (by unfold Func.isWrapper; first | (rw [if_pos (by decide +kernel)]; kernel_rfl) | (rw [if_neg (by decide +kernel)]; exact ⟨rfl, rfl⟩))
    (fun os started H enc _ F => by rw [OpenClaim.pre_eq_preRow]; exact lifted os started H enc F)

theorem plain (f : FuncId) (fn : Func) (hf : Tryz.pinned.checked.prog.funcNamed "deaddrop/deaddroplaw15.MemberMade" = some f) (hfn : Tryz.pinned.checked.prog.funcs[f]? = some fn) :
    true = Tryz.pinned.checked.prog.looks [] ∧ ∀ (j : Nat) t, fn.params[j]? = some t → Tryz.pinned.checked.prog.wantsStandIn t = false := by
  obtain rfl : f = 4 := Option.some.inj ((show Tryz.prog.funcNamed "deaddrop/deaddroplaw15.MemberMade" = some 4 by kernel_rfl).symm.trans hf) |>.symm
  obtain rfl : fn = Tryz.f4 := (Option.some.inj (Tryz.func4.symm.trans hfn)).symm
  refine ⟨by kernel_rfl, fun j t ht => ?_⟩
  have hall : (Tryz.f4.params.toList.all fun u => !Tryz.prog.wantsStandIn u) = true := by kernel_rfl
  have hm : t ∈ Tryz.f4.params.toList := by simpa using Array.mem_of_getElem? ht
  exact (show Tryz.prog.wantsStandIn t = false by simpa using List.all_eq_true.1 hall t hm)

theorem card : Rows.MemberMadeCardSaid :=
  Claim7.holds_tied_plain_at .later [] _ _ _ _ said (fun _ h => by cases h) (by kernel_rfl) (fun _ h => by cases h) memberMade_row_tie rfl ⟨rfl, rfl⟩ (by kernel_rfl) rfl plain (by kernel_rfl)
#print axioms card
end Go.Proofs.YtdlafgkiddhejaaGreatDoor.memberMade
