/-
  Proved: whatever values of its parameters' types it is called with, deaddroplaw4.WireLists returns true, and each argument reads behind the call as it read before; the library's variable errors.errorType being what the program's own text lays (the card ties it).
  Conditions: none but those of the card itself.
-/
import Derived.Test.YtbammjhafgbfkaaDoorCards
import Derived.Test.YtbammjhafgbfkaaDoorTie
import Derived.WalkKit
import Derived.ProofKit
import Derived.OpenShut
import Derived.ShutString
import Derived.Below
import Derived.Deep.DeepHandedRow
import Derived.LaidSub
import Derived.LaidHandle
import Derived.LaidLaws
import Derived.RowKitTokens
import Derived.Test.YtbammjhafgbfkaaDoorVOwn
import Derived.IntWalk
import Derived.Outline
namespace Go.Proofs.YtbammjhafgbfkaaDoor.wireLists
open Go.ChangeShapes Go.WideShapes Go.ChangeAt Go.RowKit
open Go.ChangeMaps (open_string shut_string)
open Go.Proofs.YtbammjhafgbfkaaDoor.Wd Go.Proofs.YtbammjhafgbfkaaDoor.Mm Go.Proofs.YtbammjhafgbfkaaDoor.Vw
set_option linter.unusedVariables false

theorem own : ownKnob Tryd.prog.godebug = none := by kernel_rfl
theorem laidOut : laidOutB Tryd.prog = true := by kernel_rfl

/-- WHAT THE WALK IS TOLD OF A SLICE OF INTEGERS THAT CAME IN: it is nil; or it leads to a row of 'cap' cells, the numbers 'zs' (the first 'len' are its elements, the rest its spare room), each fitting its kind. -/
def IsRow (k : IntKind) (w : World) (a : Option Addr) (len cap : Nat) (zs : List Int) : Prop :=
  (a = none ∧ len = 0 ∧ cap = 0 ∧ zs = []) ∨
  ∃ x, a = some x ∧ len ≤ cap ∧ cap ≤ maxLen ∧ zs.length = cap ∧ (∀ i, i < zs.length → w.cell? (x.add i) = some (.int k (zs.getD i 0))) ∧ ∀ n ∈ zs, (Lit.int k n).wf = true


def bare (xs : List Wr) : List (Wr × Value) := xs.map fun x => (x, Value.slice none 0 0)
theorem bare_len (xs : List Wr) : (bare xs).length = xs.length := List.length_map _
theorem bare_fst (xs : List Wr) : (bare xs).map Prod.fst = xs := by unfold bare; rw [List.map_map]; exact List.map_id xs
theorem bare_snoc (xs : List Wr) (x : Wr) : bare (xs ++ [x]) = bare xs ++ [(x, .slice none 0 0)] := by unfold bare; rw [List.map_append]; rfl
/-- Wires that may be, without lists. -/
def Good (xs : List Wr) : Prop := ∀ x ∈ xs, x.fit 5 = true ∧ x.in64 = true ∧ x.l = []
theorem Good.snoc {xs : List Wr} (h : Good xs) (x : Wr) (h1 : x.fit 5 = true) (h2 : x.in64 = true) (h3 : x.l = []) : Good (xs ++ [x]) := by
  intro y hy
  rcases List.mem_append.1 hy with hy | hy
  · exact h y hy
  · rw [List.mem_singleton.1 hy]; exact ⟨h1, h2, h3⟩
theorem good_fit : ∀ xs : List Wr, Good xs → allFit 5 xs = true ∧ allIn xs = true
  | [], _ => ⟨allFit_nil _, allIn_nil⟩
  | x :: r, h => by
    have h1 := h x List.mem_cons_self
    have h2 := good_fit r (fun y hy => h y (List.mem_cons_of_mem _ hy))
    rw [allFit_cons, allIn_cons, h1.1, h1.2.1, h2.1, h2.2]; exact ⟨rfl, rfl⟩
theorem encs_snoc (xs : List Wr) (x : Wr) : (encs (xs ++ [x])).length = (encs xs).length + x.enc.length := by
  induction xs with
  | nil => simp [encs_cons, encs_nil]
  | cons y r ih => simp only [List.cons_append, encs_cons, List.length_append, ih]; omega
theorem lst_may (xs : List Wr) (h : Good xs) (hl : xs.length ≤ 65536) : (lst xs).may = true ∧ (lst xs).in64 = true := by
  obtain ⟨h1, h2⟩ := good_fit xs h
  refine ⟨?_, ?_⟩
  · unfold lst Wr.may
    rw [fit_mk, if_neg (by decide), if_neg (by decide), if_pos rfl, show (6 : Int) - 1 = 5 by decide, h1, decide_eq_true hl]; rfl
  · unfold lst; rw [in64_mk, h2]; rfl
theorem lst_len (xs : List Wr) : (lst xs).enc.length = 5 + (encs xs).length := by
  unfold lst; rw [enc_mk, if_neg (by decide), if_neg (by decide), List.length_cons, List.length_append, highs_len]; omega
theorem bare_HL (w : World) (xs : List Wr) (h : Good xs) : ∀ p ∈ bare xs, HL w 0 p.2 p.1.l := by
  intro p hp
  obtain ⟨x, hx, rfl⟩ := List.mem_map.1 hp
  show HL w 0 (.slice none 0 0) x.l
  rw [(h x hx).2.2]; exact .nil _ _
theorem num_fit5 (n : Int) : (num n).fit 5 = true := by unfold num; rw [fit_mk]; rfl
theorem txt_fit5 (s : ByteArray) (h : s.size ≤ 1048576) : (txt s).fit 5 = true := by unfold txt; rw [fit_mk, if_neg (by decide), if_pos rfl, decide_eq_true h]; rfl

set_option maxHeartbeats 40000000 in
set_option maxRecDepth 100000 in
theorem walk (a0 : Option Addr) (len0 cap0 : Nat) (z0 : List Int) (a1 : Option Addr) (len1 cap1 : Nat) (z1 : List ByteArray) (w : World) (w0 : IsRow .u8 w a0 len0 cap0 z0) (w1 : IsStrs w a1 len1 cap1 z1) (hT : ErrT w) :
    Calls Tryd.prog 8 #[.slice a0 len0 cap0, .slice a1 len1 cap1] w fun e w' => e = .returned (.bool true) ∧ Below w.heap.size w w' := by
  have Hb : Hid (Held8 w a0 len0) := held8_of w0
  have hl0 : len0 ≤ 9223372036854775807 := by
    rcases w0 with ⟨_, rfl, _⟩ | ⟨x, _, hl, hc, _⟩
    · decide
    · unfold maxLen at hc; omega
  obtain ⟨hT1, hl1, hz1⟩ := heldT_of w1
  have HTx := Lib.hid hT1
  have Hz1 := Lib.hid hz1
  have HT := Lib.hid hT
  clear hT w0 w1 hT1 hz1
  by_cases hA : 40 < len0
  · have d1 : decide ((40 : Int) < (len0 : Int)) = true := decide_eq_true (by omega)
    have d2 : decide (40 < len0) = true := decide_eq_true hA
    go_enter Tryd.func8, Tryd.ntmps8
    go_wp2_with fail
    refine (awake_any _ HT.out).mono ?_
    rintro e w1 ⟨rfl, g1⟩
    go_wp2_with fail
    go_ret
    exact ⟨rfl, below_of g1⟩
  have d1 : decide ((40 : Int) < (len0 : Int)) = false := decide_eq_false (by omega)
  have d2 : decide (40 < len0) = false := decide_eq_false hA
  by_cases hB : 30 < len1
  · have d3 : decide ((30 : Int) < (len1 : Int)) = true := decide_eq_true (by omega)
    have d4 : decide (30 < len1) = true := decide_eq_true hB
    go_enter Tryd.func8, Tryd.ntmps8
    go_wp2_with fail
    refine (awake_any _ HT.out).mono ?_
    rintro e w1 ⟨rfl, g1⟩
    go_wp2_with fail
    go_ret
    exact ⟨rfl, below_of g1⟩
  have d3 : decide ((30 : Int) < (len1 : Int)) = false := decide_eq_false (by omega)
  have d4 : decide (30 < len1) = false := decide_eq_false hB
  have hn40 : len0 ≤ 40 := by omega
  have hn30 : len1 ≤ 30 := by omega
  obtain ⟨iW, hi, hz, hs4, hb56⟩ := wire_parts
  have Hi := Lib.hid hi
  have Hz := Lib.hid hz
  have Hs4 := Lib.hid hs4
  have Hb56 := Lib.hid hb56
  clear hi hz hs4 hb56
  go_enter Tryd.func8, Tryd.ntmps8
  go_wp2_with fail
  clear d1 d2 d3 d4
  go_loopw [5, 6, 7] (fun all size i wr => ∃ (k z : Nat) (xs : List Wr), k ≤ len0 ∧ i = .int .i64 k ∧ size = .int .i64 (5 + z : Nat) ∧ z ≤ 9 * k ∧ Hid (Own w.heap.size all (bare xs) wr) ∧ Hid (xs.length = k) ∧ Hid (z = (encs xs).length) ∧ Hid (Good xs) ∧ Hid (w.grownBy wr none)) (fun _ _ i _ => len0 - (intOf i).toNat)
  case atStart => exact ⟨0, 0, [], Nat.zero_le _, rfl, by go_num, Nat.zero_le _, Own.nil _ _, rfl, (by show _ = _; rw [encs_nil]; rfl), (by intro x hx; cases hx), gb_refl _ _⟩
  case round =>
    obtain ⟨k, z, xs, hk, rfl, rfl, hzk, Ho, Hl, Hz9, Hgd, Hg⟩ := hrel
    by_cases hlt : k < len0
    · have dz : decide (k < len0) = true := decide_eq_true hlt
      obtain ⟨g1, o1, rfl, _, hcc⟩ := (Hb.out.keep Hg.out) (by omega)
      obtain ⟨b, hb255, hcb⟩ := hcc k hlt
      clear hcc
      go_wp2_with fail
      refine (num_any (b : Int) _).mono ?_
      rintro e w2 ⟨rfl, g2⟩
      have Hg2 := Lib.hid (gb_none Hg.out g2)
      have Ho2 := Lib.hid ((Ho.out.kept g2).kept (gb_alloc (gb_refl _ _) (.cells #[.int .i64 1, .int .i64 b, .string ⟨#[]⟩, .slice none 0 0] 24)))
      have Hbl : Hid ((bare xs).length = k) := by show _ = _; rw [bare_len, Hl.out]
      have hgs := Hg2.out.size
      clear g2
      go_wp2_with (at_builtin; refine wpList_append_own _ rfl (.tmp 27) (.tmp 34) 22 rfl w.heap.size 24 iW (.agg #[.int .i64 0, .int .i64 0, .string ⟨#[]⟩, .slice none 0 0]) 4 56 Tryd.underlying22 Hi.out Hz.out Hs4.out Hb56.out rfl (by decide) _ (bare xs).length _ rfl Ho2.out ⟨w2.heap.size, 0, none⟩ 1 1 [.int .i64 1, .int .i64 b, .string ⟨#[]⟩, .slice none 0 0] rfl rfl (cells4 _ _ _ _ _) (one4 _ _ _ _ _ _) (by rw [Hbl.out]; simp only [maxLen]; omega) (by rw [Hbl.out]; omega) (by simp; omega) ?_; intro v' w' own' grow' _; obtain ⟨vA, vn, vc, rfl⟩ := own_slice4 own')
      have hgn : Hid (w.grownBy w' none) := gb_step (gb_alloc Hg2.out _) grow' (fun i e => .inr (Ho2.out.lt i e).1)
      have Hown : Hid (Own w.heap.size (.slice vA vn vc) (bare (xs ++ [num b])) w') := by
        show World.ownsRow _ _ _ _ _ _ _
        rw [bare_snoc, flat_snoc, List.length_append]
        exact own'
      clear own' grow'
      have Hz2 : Hid (z + 9 = (encs (xs ++ [num b])).length) := by show _ = _; rw [encs_snoc, num_len, Hz9.out]
      have Hgd2 : Hid (Good (xs ++ [num b])) := Hgd.out.snoc _ (num_fit5 _) (num_in _ (by omega)) rfl
      go_roundw
      case rel => exact ⟨k + 1, z + 9, xs ++ [num b], by omega, by go_num, by go_num, by omega, Hown, (by show _ = _; rw [List.length_append, Hl.out]; rfl), Hz2, Hgd2, hgn⟩
      case measure => simp [intOf]; omega
    · have dz : decide (k < len0) = false := decide_eq_false hlt
      have hz360 : z ≤ 360 := by omega
      have Hl0 : Hid (xs.length = len0) := by show _ = _; rw [Hl.out]; omega
      clear hlt
      go_wp2_with fail
      obtain ⟨wo, rfl⟩ : ∃ wo : World, wo = wr := ⟨_, rfl⟩
      obtain ⟨zo, rfl⟩ : ∃ zo : Nat, zo = z := ⟨_, rfl⟩
      clear dz
      go_loopw [5, 6, 8] (fun all size i wr => ∃ (k z : Nat) (xs : List Wr), k ≤ len1 ∧ i = .int .i64 k ∧ size = .int .i64 (5 + z : Nat) ∧ z ≤ 360 + 105 * k ∧ Hid (Own w.heap.size all (bare xs) wr) ∧ Hid (xs.length = len0 + k) ∧ Hid (z = (encs xs).length) ∧ Hid (Good xs) ∧ Hid (w.grownBy wr none)) (fun _ _ i _ => len1 - (intOf i).toNat)
      case atStart => exact ⟨0, zo, xs, Nat.zero_le _, rfl, rfl, by omega, Ho, Hl0, Hz9, Hgd, Hg⟩
      case round =>
        clear Ho Hl Hl0 Hz9 Hgd Hg hzk hk
        obtain ⟨k, z, xs, hk, rfl, rfl, hzk, Ho, Hl, Hz9, Hgd, Hg⟩ := hrel
        by_cases hlt : k < len1
        · have dz : decide (k < len1) = true := decide_eq_true hlt
          obtain ⟨g1, o1, rfl, _, hcc⟩ := (HTx.out.keep Hg.out) (by omega)
          have hcb := hcc k hlt
          have hzz := Hz1.out k hlt
          obtain ⟨s, Hsz⟩ : ∃ s, Hid (z1.getD k ByteArray.empty = s) := ⟨_, rfl⟩
          rw [Hsz.out] at hcb hzz
          clear hcc
          by_cases hs : 100 < s.size
          · have d5 : decide ((100 : Int) < (s.size : Int)) = true := decide_eq_true (by omega)
            have d6 : decide (100 < s.size) = true := decide_eq_true hs
            clear hs
            go_wp2_with fail
            refine (awake_any _ (HT.out.grown Hg.out)).mono ?_
            rintro e w5 ⟨rfl, g5⟩
            go_wp2_with fail
            go_ret
            exact ⟨rfl, below_of (gb_none Hg.out g5)⟩
          have d5 : decide ((100 : Int) < (s.size : Int)) = false := decide_eq_false (by omega)
          have d6 : decide (100 < s.size) = false := decide_eq_false hs
          have hs1 : s.size ≤ 100 := by omega
          clear hs
          go_wp2_with fail
          refine (text_any s _).mono ?_
          rintro e w2 ⟨rfl, g2⟩
          have Hg2 := Lib.hid (gb_none Hg.out g2)
          have Ho2 := Lib.hid ((Ho.out.kept g2).kept (gb_alloc (gb_refl _ _) (.cells #[.int .i64 2, .int .i64 0, .string s, .slice none 0 0] 24)))
          have Hbl : Hid ((bare xs).length = len0 + k) := by show _ = _; rw [bare_len, Hl.out]
          have hgs := Hg2.out.size
          clear g2 hcb d5 d6
          go_wp2_with (at_builtin; refine wpList_append_own _ rfl (.tmp 51) (.tmp 57) 22 rfl w.heap.size 24 iW (.agg #[.int .i64 0, .int .i64 0, .string ⟨#[]⟩, .slice none 0 0]) 4 56 Tryd.underlying22 Hi.out Hz.out Hs4.out Hb56.out rfl (by decide) _ (bare xs).length _ rfl Ho2.out ⟨w2.heap.size, 0, none⟩ 1 1 [.int .i64 2, .int .i64 0, .string s, .slice none 0 0] rfl rfl (cells4 _ _ _ _ _) (one4 _ _ _ _ _ _) (by rw [Hbl.out]; simp only [maxLen]; omega) (by rw [Hbl.out]; omega) (by simp; omega) ?_; intro v' w' own' grow' _; obtain ⟨vA, vn, vc, rfl⟩ := own_slice4 own'; have hgn : Hid (w.grownBy w' none) := gb_step (gb_alloc Hg2.out _) grow' (fun i e => .inr (Ho2.out.lt i e).1); obtain ⟨g1', o1', e', _, hcc'⟩ := (HTx.out.keep hgn.out) (by omega); cases e'; have hcb' := hcc' k hlt; rw [Hsz.out] at hcb'; clear hcc')
          have Hown : Hid (Own w.heap.size (.slice vA vn vc) (bare (xs ++ [txt s])) w') := by
            show World.ownsRow _ _ _ _ _ _ _
            rw [bare_snoc, flat_snoc, List.length_append]
            exact own'
          clear own' grow' hcb'
          have Hz2 : Hid (z + 5 + s.size = (encs (xs ++ [txt s])).length) := by show _ = _; rw [encs_snoc, txt_len, Hz9.out]; omega
          have Hgd2 : Hid (Good (xs ++ [txt s])) := Hgd.out.snoc _ (txt_fit5 _ (by omega)) (txt_in _) rfl
          go_roundw
          case rel => exact ⟨k + 1, z + 5 + s.size, xs ++ [txt s], by omega, by go_num, by go_num, by omega, Hown, (by show _ = _; rw [List.length_append, Hl.out]; rfl), Hz2, Hgd2, hgn⟩
          case measure => simp [intOf]; omega
        · have dz : decide (k < len1) = false := decide_eq_false hlt
          have Hk : Hid (k = len1) := by show _ = _; omega
          have hz5 : z ≤ 3510 := by omega
          obtain ⟨A, c, rfl⟩ := Ho.out.slice
          have Hbl : Hid ((bare xs).length = len0 + len1) := by show _ = _; rw [bare_len, Hl.out, Hk.out]
          have Hh := Lib.hid (Ho.out.list (by rw [Hbl.out]; omega) (bare_HL _ _ Hgd.out))
          rw [bare_fst] at Hh
          have hlm := lst_may xs Hgd.out (by rw [Hl.out]; omega)
          have Hlm := Lib.hid hlm
          obtain ⟨P, HP⟩ : ∃ P, Hid ((lst xs).bytes = P) := ⟨_, rfl⟩
          have hPs : P.size = 5 + z := by rw [← HP.out, size_of_bytes hlm.1, lst_len, Hz9.out]
          have HgP : Hid (get P.data.toList = some (lst xs)) := by show _ = _; rw [← HP.out]; exact get_bytes _ hlm.1 hlm.2
          have HlP : Hid (P.data.toList.length ≤ 1099511627776) := by show _ ≤ _; simp; omega
          have tP : ((P.size : Int) == 5 + (z : Int)) = true := by rw [hPs]; simp
          have HPs := Lib.hid hPs
          clear hlt hk hzk hlm hPs
          go_wp2_with fail
          refine (list_any xs _ wr Hh.out).mono ?_
          rintro e w2 ⟨A2, c2, rfl, hl2, g2⟩
          have Hg2 := Lib.hid (gb_none Hg.out g2)
          have Hh2 := Lib.hid (Hh.out.kept g2)
          have Hl2 := Lib.hid (hl2.low (Nat.zero_le _))
          clear hl2 g2
          go_wp2_with fail
          refine (put_all (lst xs) _ _ Hl2.out (by rw [lst_len, ← Hz9.out]; omega)).mono ?_
          rintro e w3 ⟨rfl, g3⟩
          rw [HP.out]
          have Hg3 := Lib.hid (gb_none Hg2.out g3)
          have Hh3 := Lib.hid (Hh2.out.kept g3)
          clear g3
          go_wp2_with fail
          refine (get_some P w3 HlP.out (lst xs) HgP.out).mono ?_
          rintro e w4 ⟨A4, c4, rfl, hl4, g4⟩
          have Hg4 := Lib.hid (gb_none Hg3.out g4)
          have Hh4 := Lib.hid ((Hh3.out.kept g4).kept (gb_alloc (gb_refl _ _) (.cells #[.int .i64 (lst xs).k, .int .i64 (lst xs).n, .string (lst xs).s, .slice A4 (lst xs).l.length c4] 24)))
          have Hl4 := Lib.hid ((hl4.low (Nat.zero_le _)).kept (gb_alloc (gb_refl _ _) (.cells #[.int .i64 (lst xs).k, .int .i64 (lst xs).n, .string (lst xs).s, .slice A4 (lst xs).l.length c4] 24)))
          have tL : (((lst xs).l.length : Int) == (len0 : Int) + (len1 : Int)) = true := by
            show ((xs.length : Int) == _) = true
            rw [Hl.out, Hk.out]; simp
          clear hl4 g4
          go_wp2_with fail
          have hsm := same_any (lst xs) (lst xs) _ _ _ Hl4.out Hh4.out
          rw [same_self] at hsm
          refine hsm.mono ?_
          rintro e w5 ⟨rfl, g5⟩
          have Hg5 := Lib.hid (gb_none (gb_alloc Hg4.out _) g5)
          clear g5 hsm
          go_wp2_with fail
          refine (awake_any w5 (HT.out.grown Hg5.out)).mono ?_
          rintro e w6 ⟨rfl, g6⟩
          go_wp2_with fail
          go_ret
          exact ⟨rfl, below_of (gb_none Hg5.out g6)⟩

theorem et : Tryd.prog.globalNamed "errors.errorType" = some 0 := by kernel_rfl
theorem rt : (Tryd.prog.cutTypes.find? (·.1 == "internal/reflectlite.rtype")).map (·.2) = some 108 := by kernel_rfl
theorem one_error : ((List.range 148).filter fun t => Tryd.prog.rowNamed t [101, 114, 114, 111, 114]) = [59] := by kernel_rfl
theorem how_many : Tryd.prog.types.size = 148 := by kernel_rfl
theorem handle : typeHandle Tryd.prog 59 = .pointer (some ⟨2, 59, none⟩) := by kernel_rfl
theorem errT {W : World} (h : laidMetH Tryd.prog Rows.wireListsRow.laid W) : ErrT W := by
  obtain ⟨n, u, t, hn, hu, ht, hr, hc⟩ := (laidMetH_iff.1 h).2 _ (List.mem_singleton.2 rfl)
  obtain rfl := Option.some.inj hn
  obtain rfl := Option.some.inj (rt.symm.trans hu)
  have hin : t ∈ [59] := by
    rw [← one_error]
    exact List.mem_filter.2 ⟨List.mem_range.2 (how_many ▸ ht), hr⟩
  obtain rfl := List.mem_singleton.1 hin
  rw [handle] at hc
  have := World.var?_cell et hc 0
  unfold ErrT
  simpa using this
set_option maxRecDepth 100000 in
theorem contract (H : Type) (enc : TypeId × Value → H) (W : World) (base : Nat) (args : Array Value) (ds gs : List (DataW H)) (before : List MemPlace)
    (hval0 : ∀ (j : Nat) t v, Tryd.f8.params[j]? = some t → args[j]? = some v → Value.okWide Tryd.prog W .any base t v)
    (hW : DataW.Whole enc Tryd.prog Tryd.f8.params.toList Rows.wireListsSpec.vars false W args.toList ds gs before) (hL : laidMetH Tryd.prog Rows.wireListsRow.laid W) :
    Calls Tryd.prog 8 args W fun e W' => ∃ v, e = .returned v ∧ Rows.wireListsSpec.post enc Tryd.prog Tryd.f8 false true false false W args v W' := by
  have hval : ∀ (j : Nat) t v, Tryd.f8.params[j]? = some t → args[j]? = some v → Value.okWide Tryd.prog W .any base t v := hval0
  have hW' := hW
  obtain ⟨p, q, hA0, hV, rfl, hfz, hnd⟩ := hW
  have hA : DataW.TrodAll enc Tryd.prog W 0 (fun _ => true) true Tryd.f8.params.toList args.toList ds p := hA0
  rw [Tryd.params8] at hA hval
  obtain ⟨v0, vs0, d0, ds0, p0, q0, hargs, rfl, rfl, h0, r0⟩ := trodAll_cons hA
  obtain ⟨v1, vs1, d1, ds1, p1, q1, rfl, rfl, rfl, h1, r1⟩ := trodAll_cons r0
  obtain ⟨rfl, rfl, rfl⟩ := trodAll_nil r1
  obtain rfl : args = #[v0, v1] := by cases args; simp_all
  obtain ⟨rfl, rfl⟩ := trodVars_none hV
  obtain ⟨a0, len0, cap0, rfl⟩ := okWide_slice Tryd.underlying35 (hval 0 35 v0 rfl rfl)
  have k0 := h0
  have lt0 : ∀ x ∈ p0, x.block < W.heap.size := by obtain ⟨m, hm⟩ := k0; exact DataW.trod_lt m _ _ _ hm
  obtain ⟨z0, w0⟩ : ∃ zs, IsRow .u8 W a0 len0 cap0 zs := by
    obtain ⟨fuel, hf⟩ := h0
    rcases open_ints Tryd.underlying35 Tryd.underlying5 (by kernel_rfl) hf with ⟨hcs, _⟩ | ⟨x, l, c, zs, hcs, _, hl, hm, hz, _, hcell, hwz⟩
    · simp [Value.cells] at hcs
      obtain ⟨rfl, rfl, rfl⟩ := hcs
      exact ⟨[], .inl ⟨rfl, rfl, rfl, rfl⟩⟩
    · simp [Value.cells] at hcs
      obtain ⟨rfl, rfl, rfl⟩ := hcs
      exact ⟨zs, .inr ⟨_, rfl, hl, hm, by simpa using hz, hcell, hwz⟩⟩
  obtain ⟨a1, len1, cap1, rfl⟩ := okWide_slice Tryd.underlying44 (hval 1 44 v1 rfl rfl)
  have k1 := h1
  have lt1 : ∀ x ∈ p1, x.block < W.heap.size := by obtain ⟨m, hm⟩ := k1; exact DataW.trod_lt m _ _ _ hm
  obtain ⟨z1, w1⟩ : ∃ zs, IsStrs W a1 len1 cap1 zs := by
    obtain ⟨fuel, hf⟩ := h1
    rcases open_strings Tryd.underlying44 Tryd.underlying9 (by kernel_rfl) hf with ⟨hcs, _⟩ | ⟨x, l, c, zs, hcs, _, hl, hm, hz, _, hcell, hwz⟩
    · simp [Value.cells] at hcs
      obtain ⟨rfl, rfl, rfl⟩ := hcs
      exact ⟨[], .inl ⟨rfl, rfl, rfl, rfl⟩⟩
    · simp [Value.cells] at hcs
      obtain ⟨rfl, rfl, rfl⟩ := hcs
      exact ⟨zs, .inr ⟨_, rfl, hl, hm, by simpa using hz, hcell, hwz⟩⟩
  clear hA0 hval0
  refine (walk a0 len0 cap0 z0 a1 len1 cap1 z1 W w0 w1 (errT hL)).mono fun e W' ⟨he, bel⟩ => ?_
  subst he
  exact ⟨_, rfl, _, _, _, [], _, [], hW', trodAll_mk1 (shut_bool Tryd.underlying4 _), (trodAll_cons_mk (Below.trod laidOut (by kernel_rfl) (of_decide_eq_true (by kernel_rfl)) k0 bel lt0) (trodAll_cons_mk (Below.trod laidOut (by kernel_rfl) (of_decide_eq_true (by kernel_rfl)) k1 bel lt1) trodAll_mk0)), rfl, bel.frame _, fun h => by cases h⟩

def lay (cs : Array Value) : Obj → Obj
  | .cells _ t frozen => .cells cs t frozen
  | o => o
noncomputable def laidWorld (os : Os) : World :=
  { World.holding Tryd.prog os ⟨#[], #[], []⟩ with heap := (World.holding Tryd.prog os ⟨#[], #[], []⟩).heap.modify 0 (lay #[.iface 108 (.agg #[.pointer (some ⟨2, 59, none⟩)])]) }
theorem laid_met (os : Os) : laidMetH Tryd.prog Rows.wireListsRow.laid ((laidWorld os).forCall (fun _ _ => 0) ⟨#[], #[.slice none 0 0, .slice none 0 0], []⟩).memory :=
  laidMetH_of_parts (laidMet_nil _ _) (by kernel_rfl)
theorem reads (os : Os) {H : Type} (enc : TypeId × Value → H) : ∃ places, DataW.whole enc Tryd.prog ((laidWorld os).forCall (fun _ _ => 0) ⟨#[], #[.slice none 0 0, .slice none 0 0], []⟩).memory Tryd.f8.params.toList Rows.wireListsSpec.vars false (show Array Value from #[.slice none 0 0, .slice none 0 0]).toList 8 = some ([.nil, .nil], [], places) :=
  ⟨[], by kernel_rfl⟩

set_option maxRecDepth 100000 in
theorem lifted (os : Os) (started : os.Started) (H : Type) (enc : TypeId × Value → H) (F : Stop.Interp) :
    ReturnsInHanded {} Tryd.checked os 8 .any ((OpenSpec.ofChange Rows.wireListsSpec).preRow enc Tryd.prog Tryd.f8 Rows.wireListsRow.domain false Rows.wireListsRow.laid) (((OpenSpec.ofChange Rows.wireListsSpec).at F).post enc Tryd.prog Tryd.f8 false true false false) := by
  obtain ⟨places, hx⟩ := reads os enc
  refine returnsInHanded_of_row (C := Tryd.checked) (s := OpenSpec.ofChange Rows.wireListsSpec) own started (by kernel_rfl) Tryd.func8
    (witness_row_at (enc := enc) (C := Tryd.checked) false (laidWorld os) #[.slice none 0 0, .slice none 0 0] rfl (by kernel_rfl) (by kernel_rfl) (by kernel_rfl)
      (OpenSpec.preRow_of_cond 8 hx (by kernel_rfl) (fun k hk => by cases hk) (by kernel_rfl) (laid_met os))) ?_
  intro W base args ds gs before hval hW _ _ _ hL _ _
  exact contract H enc W base args ds gs before hval hW hL

theorem said : Rows.WireListsSaid :=
  OpenClaim.holds_of_cond 8 Tryd.f8 rfl rfl rfl rfl rfl rfl rfl ⟨rfl, rfl, rfl, rfl, rfl⟩ rfl rfl rfl rfl rfl (by kernel_rfl) Tryd.func8 (by kernel_rfl)
    (of_decide_eq_true (by kernel_rfl)) (by unfold Func.isWrapper; first | (rw [if_pos (by decide +kernel)]; kernel_rfl) | (rw [if_neg (by decide +kernel)]; exact ⟨rfl, rfl⟩))
    (fun os started H enc _ F => by rw [OpenClaim.pre_eq_preRow]; exact lifted os started H enc F)

theorem plain (f : FuncId) (fn : Func) (hf : Tryd.pinned.checked.prog.funcNamed "deaddrop/deaddroplaw4.WireLists" = some f) (hfn : Tryd.pinned.checked.prog.funcs[f]? = some fn) :
    true = Tryd.pinned.checked.prog.looks [] ∧ ∀ (j : Nat) t, fn.params[j]? = some t → Tryd.pinned.checked.prog.wantsStandIn t = false := by
  obtain rfl : f = 8 := Option.some.inj ((show Tryd.prog.funcNamed "deaddrop/deaddroplaw4.WireLists" = some 8 by kernel_rfl).symm.trans hf) |>.symm
  obtain rfl : fn = Tryd.f8 := (Option.some.inj (Tryd.func8.symm.trans hfn)).symm
  refine ⟨by kernel_rfl, fun j t ht => ?_⟩
  have hall : (Tryd.f8.params.toList.all fun u => !Tryd.prog.wantsStandIn u) = true := by kernel_rfl
  have hm : t ∈ Tryd.f8.params.toList := by simpa using Array.mem_of_getElem? ht
  exact (show Tryd.prog.wantsStandIn t = false by simpa using List.all_eq_true.1 hall t hm)

theorem card : Rows.WireListsCardSaid :=
  Claim7.holds_tied_plain_at .later [] _ _ _ _ said (fun _ h => by cases h) (by kernel_rfl) (fun _ h => by cases h) wireLists_row_tie rfl ⟨rfl, rfl⟩ (by kernel_rfl) rfl plain (by kernel_rfl)
#print axioms card
end Go.Proofs.YtbammjhafgbfkaaDoor.wireLists
