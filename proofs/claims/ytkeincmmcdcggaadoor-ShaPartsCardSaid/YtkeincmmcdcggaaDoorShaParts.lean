/-
  Proved: whatever values of its parameters' types it is called with, deaddroplaw2.ShaParts returns true, and each argument reads behind the call as it read before; the two tables of package sha being what the program's own text lays (the card ties them).
  Conditions: none but those of the card itself.
-/
import Derived.Test.YtkeincmmcdcggaaDoorCards
import Derived.Test.YtkeincmmcdcggaaDoorTie
import Derived.WalkKit
import Derived.ProofKit
import Derived.OpenShut
import Derived.ShutString
import Derived.Below
import Derived.Deep.DeepHandedRow
import Derived.Lib.LaidTab
import Derived.LaidSub
import Derived.Test.YtkeincmmcdcggaaDoorSHelp
import Derived.IntWalk
import Derived.Outline
namespace Go.Proofs.YtkeincmmcdcggaaDoor.shaParts
open Go.ChangeShapes Go.WideShapes Go.ChangeAt Go.RowKit
open Go.ChangeMaps (open_string shut_string)
open Go.Proofs.YtkeincmmcdcggaaDoor.Wd Go.Proofs.YtkeincmmcdcggaaDoor.Mm
set_option linter.unusedVariables false

theorem own : ownKnob Tryd.prog.godebug = none := by kernel_rfl
theorem laidOut : laidOutB Tryd.prog = true := by kernel_rfl

/-- WHAT THE WALK IS TOLD OF A SLICE OF INTEGERS THAT CAME IN: it is nil; or it leads to a row of 'cap' cells, the numbers 'zs' (the first 'len' are its elements, the rest its spare room), each fitting its kind. -/
def IsRow (k : IntKind) (w : World) (a : Option Addr) (len cap : Nat) (zs : List Int) : Prop :=
  (a = none ∧ len = 0 ∧ cap = 0 ∧ zs = []) ∨
  ∃ x, a = some x ∧ len ≤ cap ∧ cap ≤ maxLen ∧ zs.length = cap ∧ (∀ i, i < zs.length → w.cell? (x.add i) = some (.int k (zs.getD i 0))) ∧ ∀ n ∈ zs, (Lit.int k n).wf = true


theorem len_of {k : IntKind} {w : World} {a : Option Addr} {len cap : Nat} {zs : List Int} (h : IsRow k w a len cap zs) : len ≤ 9223372036854775807 := by
  have hm : len ≤ maxLen := by
    rcases h with ⟨_, rfl, _⟩ | ⟨x, _, h1, h2, _⟩
    · exact Nat.zero_le _
    · exact Nat.le_trans h1 h2
  exact Nat.le_trans hm (by unfold maxLen; decide)
theorem size_cat (ss : List ByteArray) (s : ByteArray) (h : s.data.toList = catB ss) : s.size = (catB ss).length := by rw [← h]; simp
theorem ext_data (s : ByteArray) (a b : Nat) : (s.extract a b).data.toList = (s.data.toList.drop a).take (b - a) := by
  rw [ByteArray.data_extract, Array.toList_extract]
theorem small_get (os : List ByteArray) (h : ∀ x ∈ os, x.size ≤ 4000) : ∀ i, i < os.length → (os.getD i ByteArray.empty).size ≤ 9223372036854775807 := fun i hi => by
  have := h (os.getD i ByteArray.empty) (by rw [List.getD_eq_getElem?_getD, List.getElem?_eq_getElem hi]; exact List.getElem_mem _)
  omega
theorem strs_all (l : List ByteArray) : ∀ u ∈ l.map Value.string, u.oneCell' = true := by
  intro u hu
  simp only [List.mem_map] at hu
  obtain ⟨x, _, rfl⟩ := hu
  rfl
theorem one_cell {w : World} (p : ByteArray) : ∀ j u, ([Value.string p] : List Value)[j]? = some u → (w.alloc (.cells #[.string p] 9)).cell? ((⟨w.heap.size, 0, none⟩ : Addr).add j) = some u := fun j u hu => by
  have hj : j = 0 := by
    rcases j with _ | j
    · rfl
    · simp at hu
  subst hj
  have hadd : (⟨w.heap.size, 0, none⟩ : Addr).add 0 = ⟨w.heap.size, 0, none⟩ := by unfold Addr.add; split <;> simp_all
  rw [hadd, ← hu]
  exact cell_of_row _ _ 0 #[.string p] 9 (0, 0) (heap_alloc_new _ _)

set_option maxHeartbeats 40000000 in
set_option maxRecDepth 100000 in
theorem walk (a0 : Option Addr) (len0 cap0 : Nat) (z0 : List ByteArray) (a1 : Option Addr) (len1 cap1 : Nat) (z1 : List Int) (w : World) (w0 : IsStrs w a0 len0 cap0 z0) (w1 : IsRow .u8 w a1 len1 cap1 z1) (hT : Tabs w) :
    Calls Tryd.prog 5 #[.slice a0 len0 cap0, .slice a1 len1 cap1] w fun e w' => e = .returned (.bool true) ∧ Below w.heap.size w w' := by
  have hl1 := len_of w1
  obtain ⟨hs, hl0, hsz⟩ := strs_of w0
  have hb := held8_of w1
  generalize z0.take len0 = ss at *
  clear w0 w1
  by_cases hA : 20 < len0
  · have t1 : decide ((20 : Int) < (len0 : Int)) = true := decide_eq_true (by omega)
    go_enter Tryd.func5, Tryd.ntmps5
    go_wp2_with fail
    refine (awake_any _ hT).mono ?_
    rintro e x1 ⟨rfl, g1⟩
    go_wp2_with fail
    go_ret
    exact ⟨rfl, below_of g1⟩
  · have t1 : decide ((20 : Int) < (len0 : Int)) = false := decide_eq_false (by omega)
    by_cases hB : 20 < len1
    · have t2 : decide ((20 : Int) < (len1 : Int)) = true := decide_eq_true (by omega)
      go_enter Tryd.func5, Tryd.ntmps5
      go_wp2_with fail
      refine (awake_any _ hT).mono ?_
      rintro e x1 ⟨rfl, g1⟩
      go_wp2_with fail
      go_ret
      exact ⟨rfl, below_of g1⟩
    · have t2 : decide ((20 : Int) < (len1 : Int)) = false := decide_eq_false (by omega)
      have Hs := Lib.hid hs
      have Hsz := Lib.hid hsz
      have Hb := Lib.hid hb
      clear hs hsz hb
      go_enter Tryd.func5, Tryd.ntmps5
      go_wp2_with fail
      go_loopw [6, 5] (fun i v wr => ∃ (k : Nat) (s : ByteArray), k ≤ len0 ∧ i = .int .i64 k ∧ v = .string s ∧ Hid (s.data.toList = catB (ss.take k)) ∧ s.size ≤ 200 * k ∧ w.grownBy wr none) (fun i _ _ => len0 - (intOf i).toNat)
      case atStart => exact ⟨0, ⟨#[]⟩, Nat.zero_le _, rfl, rfl, (by show _ = _; simp [catB]), Nat.zero_le _, gb_refl _ _⟩
      case round =>
        obtain ⟨k, s, hk, rfl, rfl, Hcs, hss, hg⟩ := hrel
        have hTr := hT.keep hg (by simp)
        by_cases hlt : k < len0
        · have d1 : decide (k < len0) = true := decide_eq_true hlt
          have d2 : decide ((k : Int) < (len0 : Int)) = true := decide_eq_true (by omega)
          obtain ⟨g, o, rfl, hgl, hc⟩ := (Hs.out.keep hg).2 (by omega)
          have hck := hc k hlt
          have Hcat := Lib.hid (catB_take ss k (by rw [Hs.out.1]; exact hlt))
          have hpz := Hsz.out k hlt
          generalize hp : ss.getD k ByteArray.empty = p at *
          clear hp hc
          by_cases h200 : 200 < p.size
          · have t3 : decide ((200 : Int) < (p.size : Int)) = true := decide_eq_true (by omega)
            go_wp2_with fail
            refine (awake_any _ (by exact hTr)).mono ?_
            rintro e x1 ⟨rfl, g1⟩
            go_wp2_with fail
            go_ret
            exact ⟨rfl, below_of (gb_none hg g1)⟩
          · have t3 : decide ((200 : Int) < (p.size : Int)) = false := decide_eq_false (by omega)
            have hcat : ¬ 9223372036854775807 < s.size + p.size := by omega
            go_wp2_with fail
            go_roundw
            case rel =>
              refine ⟨k + 1, s ++ p, by omega, by go_num, rfl, ?_, by rw [ByteArray.size_append]; omega, hg⟩
              show _ = _
              rw [Hcat.out, ByteArray.data_append, Array.toList_append, Hcs.out]
            case measure => simp [intOf]; omega
        · have hkn : k = len0 := by omega
          have d1 : decide (k < len0) = false := decide_eq_false hlt
          have d2 : decide ((k : Int) < (len0 : Int)) = false := decide_eq_false (by omega)
          have Hall : Hid (s.data.toList = catB ss) := by
            show _ = _
            rw [Hcs.out, List.take_of_length_le (by rw [Hs.out.1]; omega)]
          have hs4 : s.size ≤ 4000 := by omega
          clear hkn Hcs hss
          obtain ⟨all, rfl⟩ : ∃ all, all = s := ⟨_, rfl⟩
          obtain ⟨wo, rfl⟩ : ∃ wo : World, wo = wr := ⟨_, rfl⟩
          obtain ⟨i0, hi0, hz0, hz1, hz2⟩ := info_parts str_info
          have Hi0 := Lib.hid hi0
          have Hz0 := Lib.hid hz0
          have Hz1 := Lib.hid hz1
          have Hz2 := Lib.hid hz2
          clear hi0 hz0 hz1 hz2
          go_wp2_with fail
          go_loopw [9, 8, 7] (fun i at_ other wr => ∃ (k a : Nat) (os : List ByteArray), k ≤ len1 ∧ i = .int .i64 k ∧ at_ = .int .i64 a ∧ a ≤ all.size ∧ wr.ownsRow w.heap.size 9 1 other os.length (os.map Value.string) ∧ Hid (catB os = all.data.toList.take a) ∧ Hid (∀ x ∈ os, x.size ≤ 4000) ∧ Hid (os.length ≤ k) ∧ w.grownBy wr none) (fun i _ _ _ => len1 - (intOf i).toNat)
          case atStart => exact ⟨0, 0, [], Nat.zero_le _, rfl, rfl, Nat.zero_le _, World.ownsRow_nil _ _ _ _, (by show _ = _; simp [catB]), (by intro x hx; cases hx), Nat.zero_le _, hg⟩
          case round =>
            clear hg hTr d1 d2
            obtain ⟨k, a, os, hk, rfl, rfl, ha, hown, Hcat, Hsm, Hlen, hg⟩ := hrel
            by_cases hc1 : k < len1
            · have d1 : decide (k < len1) = true := decide_eq_true hc1
              by_cases hc2 : a < all.size
              · have d2 : decide (a < all.size) = true := decide_eq_true hc2
                obtain ⟨g1, o1, rfl, _, hcc⟩ := (Hb.out.keep hg) (by omega)
                obtain ⟨b, hb255, hcb⟩ := hcc k hc1
                obtain ⟨r, Hr⟩ : ∃ r : Nat, Hid (r = all.size - a) := ⟨_, rfl⟩
                have hr : (all.size : Int) - (a : Int) = (r : Int) := by have := Hr.out; omega
                clear hcc
                by_cases hbr : r < b
                · have hbr1 : (r : Int) < (b : Int) := by omega
                  have hbr2 : ¬ (b : Int) ≤ (r : Int) := by omega
                  have hbr3 : ¬ (b : Int) < (r : Int) := by omega
                  obtain ⟨a2, Ha2⟩ : ∃ a2 : Nat, Hid (a2 = a + r) := ⟨_, rfl⟩
                  have ha2 : (a : Int) + (r : Int) = (a2 : Int) := by have := Ha2.out; omega
                  have ha3 : a2 ≤ all.size := by have := Ha2.out; have := Hr.out; omega
                  have ha4 : a ≤ a2 := by have := Ha2.out; omega
                  have hi1 : (a : Int) ≤ (a2 : Int) := by omega
                  have hi2 : (a2 : Int) ≤ (all.size : Int) := by omega
                  go_wp2_with (at_builtin; refine wpList_append_own _ rfl (.tmp 62) (.tmp 69) 28 rfl w.heap.size 9 i0 (.string ⟨#[]⟩) 1 16 Tryd.underlying28 Hi0.out Hz0.out Hz1.out Hz2.out rfl (by decide) _ os.length _ rfl (hown.alloc _) ⟨wr.heap.size, 0, none⟩ 1 1 [.string (all.extract a a2)] rfl rfl (one_cell _) (strs_all [all.extract a a2]) (by have := Hlen.out; simp only [maxLen]; omega) (by have := Hlen.out; omega) (by have := hg.size; simp; omega) ?_; intro v' w' own' grow' _)
                  go_roundw
                  case rel =>
                    refine ⟨k + 1, a2, os ++ [all.extract a a2], by omega, by go_num, rfl, ha3, ?_, ?_, ?_, ?_, gb_step (gb_alloc hg _) grow' (fun i e => .inr (hown.lt i e).1)⟩
                    · have h := own'
                      rw [List.length_append, List.map_append]
                      exact h
                    · show _ = _
                      rw [catB_append, Hcat.out, catB_one, ext_data, ← List.take_add, show a + (a2 - a) = a2 by omega]
                    · intro x hx
                      rcases List.mem_append.1 hx with hx | hx
                      · exact Hsm.out x hx
                      · rw [List.mem_singleton.1 hx, ByteArray.size_extract]; omega
                    · show _ ≤ _
                      have := Hlen.out
                      rw [List.length_append]; simp; omega
                  case measure => simp [intOf]; omega
                · have hbr1 : ¬ (r : Int) < (b : Int) := by omega
                  have hbr2 : (b : Int) ≤ (r : Int) := by omega
                  obtain ⟨a2, Ha2⟩ : ∃ a2 : Nat, Hid (a2 = a + b) := ⟨_, rfl⟩
                  have ha2 : (a : Int) + (b : Int) = (a2 : Int) := by have := Ha2.out; omega
                  have ha3 : a2 ≤ all.size := by have := Ha2.out; have := Hr.out; omega
                  have ha4 : a ≤ a2 := by have := Ha2.out; omega
                  have hi1 : (a : Int) ≤ (a2 : Int) := by omega
                  have hi2 : (a2 : Int) ≤ (all.size : Int) := by omega
                  go_wp2_with (at_builtin; refine wpList_append_own _ rfl (.tmp 62) (.tmp 69) 28 rfl w.heap.size 9 i0 (.string ⟨#[]⟩) 1 16 Tryd.underlying28 Hi0.out Hz0.out Hz1.out Hz2.out rfl (by decide) _ os.length _ rfl (hown.alloc _) ⟨wr.heap.size, 0, none⟩ 1 1 [.string (all.extract a a2)] rfl rfl (one_cell _) (strs_all [all.extract a a2]) (by have := Hlen.out; simp only [maxLen]; omega) (by have := Hlen.out; omega) (by have := hg.size; simp; omega) ?_; intro v' w' own' grow' _)
                  go_roundw
                  case rel =>
                    refine ⟨k + 1, a2, os ++ [all.extract a a2], by omega, by go_num, rfl, ha3, ?_, ?_, ?_, ?_, gb_step (gb_alloc hg _) grow' (fun i e => .inr (hown.lt i e).1)⟩
                    · have h := own'
                      rw [List.length_append, List.map_append]
                      exact h
                    · show _ = _
                      rw [catB_append, Hcat.out, catB_one, ext_data, ← List.take_add, show a + (a2 - a) = a2 by omega]
                    · intro x hx
                      rcases List.mem_append.1 hx with hx | hx
                      · exact Hsm.out x hx
                      · rw [List.mem_singleton.1 hx, ByteArray.size_extract]; omega
                    · show _ ≤ _
                      have := Hlen.out
                      rw [List.length_append]; simp; omega
                  case measure => simp [intOf]; omega
              · have d2 : decide (a < all.size) = false := decide_eq_false hc2
                have hTr := hT.keep hg (by simp)
                go_wp2_with (at_builtin; refine wpList_append_own _ rfl (.tmp 74) (.tmp 78) 28 rfl w.heap.size 9 i0 (.string ⟨#[]⟩) 1 16 Tryd.underlying28 Hi0.out Hz0.out Hz1.out Hz2.out rfl (by decide) _ os.length _ rfl (hown.alloc _) ⟨wr.heap.size, 0, none⟩ 1 1 [.string (all.extract a all.size)] rfl rfl (one_cell _) (strs_all [all.extract a all.size]) (by have := Hlen.out; simp only [maxLen]; omega) (by have := Hlen.out; omega) (by have := hg.size; simp; omega) ?_; intro v' w' own' grow' _)
                have g3 : w.grownBy w' none := gb_step (gb_alloc hg _) grow' (fun i e => .inr (hown.lt i e).1)
                have hT3 := hT.keep g3 (by simp)
                have own2 : w'.ownsRow w.heap.size 9 1 v' (os ++ [all.extract a all.size]).length ((os ++ [all.extract a all.size]).map Value.string) := by
                  have h := own'
                  rw [List.length_append, List.map_append]
                  exact h
                obtain ⟨A, c, rfl, hso⟩ := strs_own own2
                have Hco : Hid (catB (os ++ [all.extract a all.size]) = all.data.toList) := by
                  show _ = _
                  rw [catB_append, Hcat.out, catB_one, ext_data, ← List.take_add, show a + (all.size - a) = all.size by omega]
                  exact List.take_of_length_le (by simp)
                have Hso2 : Hid (∀ x ∈ os ++ [all.extract a all.size], x.size ≤ 4000) := by
                  intro x hx
                  rcases List.mem_append.1 hx with hx | hx
                  · exact Hsm.out x hx
                  · rw [List.mem_singleton.1 hx, ByteArray.size_extract]; omega
                have Hlo : Hid ((os ++ [all.extract a all.size]).length ≤ 100) := by
                  show _ ≤ _
                  have := Hlen.out
                  rw [List.length_append]; simp; omega
                have hss3 := Hs.out.keep g3
                clear own' own2 grow' hown hg hTr Hcat Hsm Hlen
                generalize os ++ [all.extract a all.size] = os' at *
                have Hso := Lib.hid hso
                have Hss3 := Lib.hid hss3
                clear hso hss3
                obtain ⟨S, HS⟩ : ∃ S : ByteArray, Hid ((⟨(shaS all.data.toList).toArray⟩ : ByteArray) = S) := ⟨_, rfl⟩
                have hS32 : S.size = 32 := by rw [← HS.out, ← len_data, ba]; exact shaS_len _
                have t32 : ((S.size : Int) == 32) = true := by rw [hS32]; rfl
                clear hS32
                refine (sum_any _ 1 1 [all] _ (by decide) (one_small _ (by omega)) (by exact strs_one _ _) (by exact hT3.keep (gb_alloc (gb_refl _ none) _) (by simp))).mono ?_
                rintro e w4 ⟨rfl, g4⟩
                have g5 := gb_none (gb_alloc g3 _) g4
                have hT5 := hT.keep g5 (by simp)
                rw [show catB [all] = all.data.toList from catB_one _, HS.out]
                have Hso5 := Lib.hid (Hso.out.keep (gb_none (gb_alloc (gb_refl _ none) _) g4))
                have Hss5 := Lib.hid (Hss3.out.keep (gb_none (gb_alloc (gb_refl _ none) _) g4))
                clear g3 hT3 g4
                go_wp2_with fail
                refine (sum_any _ len0 cap0 ss _ hl0 Hsz.out (by exact Hss5.out) (by exact hT5)).mono ?_
                rintro e w5 ⟨rfl, g6⟩
                rw [← Hall.out, HS.out]
                have g7 := gb_none g5 g6
                have hT7 := hT.keep g7 (by simp)
                have Hso7 := Lib.hid (Hso5.out.keep g6)
                go_wp2_with fail
                refine (sum_any _ os'.length c os' _ (by have := Hlo.out; omega) (small_get _ Hso2.out) (by exact Hso7.out) (by exact hT7)).mono ?_
                rintro e w6 ⟨rfl, g8⟩
                rw [Hco.out, HS.out]
                have g9 := gb_none g7 g8
                have hT9 := hT.keep g9 (by simp)
                go_wp2_with fail
                refine (awake_any _ (by exact hT9)).mono ?_
                rintro e w7 ⟨rfl, g10⟩
                go_wp2_with fail
                go_ret
                exact ⟨rfl, below_of (gb_none g9 g10)⟩
            · have d1 : decide (k < len1) = false := decide_eq_false hc1
              have hTr := hT.keep hg (by simp)
              go_wp2_with (at_builtin; refine wpList_append_own _ rfl (.tmp 74) (.tmp 78) 28 rfl w.heap.size 9 i0 (.string ⟨#[]⟩) 1 16 Tryd.underlying28 Hi0.out Hz0.out Hz1.out Hz2.out rfl (by decide) _ os.length _ rfl (hown.alloc _) ⟨wr.heap.size, 0, none⟩ 1 1 [.string (all.extract a all.size)] rfl rfl (one_cell _) (strs_all [all.extract a all.size]) (by have := Hlen.out; simp only [maxLen]; omega) (by have := Hlen.out; omega) (by have := hg.size; simp; omega) ?_; intro v' w' own' grow' _)
              have g3 : w.grownBy w' none := gb_step (gb_alloc hg _) grow' (fun i e => .inr (hown.lt i e).1)
              have hT3 := hT.keep g3 (by simp)
              have own2 : w'.ownsRow w.heap.size 9 1 v' (os ++ [all.extract a all.size]).length ((os ++ [all.extract a all.size]).map Value.string) := by
                have h := own'
                rw [List.length_append, List.map_append]
                exact h
              obtain ⟨A, c, rfl, hso⟩ := strs_own own2
              have Hco : Hid (catB (os ++ [all.extract a all.size]) = all.data.toList) := by
                show _ = _
                rw [catB_append, Hcat.out, catB_one, ext_data, ← List.take_add, show a + (all.size - a) = all.size by omega]
                exact List.take_of_length_le (by simp)
              have Hso2 : Hid (∀ x ∈ os ++ [all.extract a all.size], x.size ≤ 4000) := by
                intro x hx
                rcases List.mem_append.1 hx with hx | hx
                · exact Hsm.out x hx
                · rw [List.mem_singleton.1 hx, ByteArray.size_extract]; omega
              have Hlo : Hid ((os ++ [all.extract a all.size]).length ≤ 100) := by
                show _ ≤ _
                have := Hlen.out
                rw [List.length_append]; simp; omega
              have hss3 := Hs.out.keep g3
              clear own' own2 grow' hown hg hTr Hcat Hsm Hlen
              generalize os ++ [all.extract a all.size] = os' at *
              have Hso := Lib.hid hso
              have Hss3 := Lib.hid hss3
              clear hso hss3
              obtain ⟨S, HS⟩ : ∃ S : ByteArray, Hid ((⟨(shaS all.data.toList).toArray⟩ : ByteArray) = S) := ⟨_, rfl⟩
              have hS32 : S.size = 32 := by rw [← HS.out, ← len_data, ba]; exact shaS_len _
              have t32 : ((S.size : Int) == 32) = true := by rw [hS32]; rfl
              clear hS32
              refine (sum_any _ 1 1 [all] _ (by decide) (one_small _ (by omega)) (by exact strs_one _ _) (by exact hT3.keep (gb_alloc (gb_refl _ none) _) (by simp))).mono ?_
              rintro e w4 ⟨rfl, g4⟩
              have g5 := gb_none (gb_alloc g3 _) g4
              have hT5 := hT.keep g5 (by simp)
              rw [show catB [all] = all.data.toList from catB_one _, HS.out]
              have Hso5 := Lib.hid (Hso.out.keep (gb_none (gb_alloc (gb_refl _ none) _) g4))
              have Hss5 := Lib.hid (Hss3.out.keep (gb_none (gb_alloc (gb_refl _ none) _) g4))
              clear g3 hT3 g4
              go_wp2_with fail
              refine (sum_any _ len0 cap0 ss _ hl0 Hsz.out (by exact Hss5.out) (by exact hT5)).mono ?_
              rintro e w5 ⟨rfl, g6⟩
              rw [← Hall.out, HS.out]
              have g7 := gb_none g5 g6
              have hT7 := hT.keep g7 (by simp)
              have Hso7 := Lib.hid (Hso5.out.keep g6)
              go_wp2_with fail
              refine (sum_any _ os'.length c os' _ (by have := Hlo.out; omega) (small_get _ Hso2.out) (by exact Hso7.out) (by exact hT7)).mono ?_
              rintro e w6 ⟨rfl, g8⟩
              rw [Hco.out, HS.out]
              have g9 := gb_none g7 g8
              have hT9 := hT.keep g9 (by simp)
              go_wp2_with fail
              refine (awake_any _ (by exact hT9)).mono ?_
              rintro e w7 ⟨rfl, g10⟩
              go_wp2_with fail
              go_ret
              exact ⟨rfl, below_of (gb_none g9 g10)⟩

def zs1 : List Int := [1779033703, 3144134277, 1013904242, 2773480762, 1359893119, 2600822924, 528734635, 1541459225]
def zs2 : List Int := [1116352408, 1899447441, 3049323471, 3921009573, 961987163, 1508970993, 2453635748, 2870763221, 3624381080, 310598401, 607225278, 1426881987, 1925078388, 2162078206, 2614888103, 3248222580, 3835390401, 4022224774, 264347078, 604807628, 770255983, 1249150122, 1555081692, 1996064986, 2554220882, 2821834349, 2952996808, 3210313671, 3336571891, 3584528711, 113926993, 338241895, 666307205, 773529912, 1294757372, 1396182291, 1695183700, 1986661051, 2177026350, 2456956037, 2730485921, 2820302411, 3259730800, 3345764771, 3516065817, 3600352804, 4094571909, 275423344, 430227734, 506948616, 659060556, 883997877, 958139571, 1322822218, 1537002063, 1747873779, 1955562222, 2024104815, 2227730452, 2361852424, 2428436474, 2756734187, 3204031479, 3329325298]
theorem tabs {W : World} (h : laidMetH Tryd.prog Rows.shaPartsRow.laid W) : Tabs W := by
  have h1 : Lib.TabIs Tryd.prog W "deaddrop/sha.opening" .u32 zs1 := Lib.tabIs_of_head (rest := [("deaddrop/sha.roundNumbers", Rows.laid_deaddrop_sha_roundNumbers)]) (g := 0) (t := 33) (e := 32) (n := 8) (by kernel_rfl) (by kernel_rfl) Tryd.underlying33 Tryd.underlying32 (by kernel_rfl) (by kernel_rfl) h
  have h2 : Lib.TabIs Tryd.prog W "deaddrop/sha.roundNumbers" .u32 zs2 := Lib.tabIs_of_head (rest := []) (g := 1) (t := 49) (e := 32) (n := 64) (by kernel_rfl) (by kernel_rfl) Tryd.underlying49 Tryd.underlying32 (by kernel_rfl) (by kernel_rfl) (laidMetH.filter (fun x => x.1 == "deaddrop/sha.roundNumbers") h)
  have e1 : ∀ i, i < 8 → zs1.getD i 0 = ((firstH.getD i 0).toNat : Int) := by decide
  have e2 : ∀ i, i < 64 → zs2.getD i 0 = ((konst.getD i 0).toNat : Int) := by decide +kernel
  have c1 : ∀ i, i < 8 → W.cell? ⟨0, i, none⟩ = some (w32 (firstH.getD i 0)) := fun i hi => by
    have := h1.cell (g := 0) (by kernel_rfl) i (by rw [show zs1.length = 8 from rfl]; exact hi)
    rw [e1 i hi] at this; exact this
  have c2 : ∀ i, i < 64 → W.cell? ⟨1, i, none⟩ = some (w32 (konst.getD i 0)) := fun i hi => by
    have := h2.cell (g := 1) (by kernel_rfl) i (by rw [show zs2.length = 64 from rfl]; exact hi)
    rw [e2 i hi] at this; exact this
  exact ⟨block_lt_of_cell (c2 0 (by decide)), c1, c2⟩

theorem contract (H : Type) (enc : TypeId × Value → H) (W : World) (base : Nat) (args : Array Value) (ds gs : List (DataW H)) (before : List MemPlace)
    (hval0 : ∀ (j : Nat) t v, Tryd.f5.params[j]? = some t → args[j]? = some v → Value.okWide Tryd.prog W .any base t v)
    (hW : DataW.Whole enc Tryd.prog Tryd.f5.params.toList Rows.shaPartsSpec.vars false W args.toList ds gs before) (hL : laidMetH Tryd.prog Rows.shaPartsRow.laid W) :
    Calls Tryd.prog 5 args W fun e W' => ∃ v, e = .returned v ∧ Rows.shaPartsSpec.post enc Tryd.prog Tryd.f5 false true false false W args v W' := by
  have hval : ∀ (j : Nat) t v, Tryd.f5.params[j]? = some t → args[j]? = some v → Value.okWide Tryd.prog W .any base t v := hval0
  have hW' := hW
  obtain ⟨p, q, hA0, hV, rfl, hfz, hnd⟩ := hW
  have hA : DataW.TrodAll enc Tryd.prog W 0 (fun _ => true) true Tryd.f5.params.toList args.toList ds p := hA0
  rw [Tryd.params5] at hA hval
  obtain ⟨v0, vs0, d0, ds0, p0, q0, hargs, rfl, rfl, h0, r0⟩ := trodAll_cons hA
  obtain ⟨v1, vs1, d1, ds1, p1, q1, rfl, rfl, rfl, h1, r1⟩ := trodAll_cons r0
  obtain ⟨rfl, rfl, rfl⟩ := trodAll_nil r1
  obtain rfl : args = #[v0, v1] := by cases args; simp_all
  obtain ⟨rfl, rfl⟩ := trodVars_none hV
  obtain ⟨a0, len0, cap0, rfl⟩ := okWide_slice Tryd.underlying28 (hval 0 28 v0 rfl rfl)
  have k0 := h0
  have lt0 : ∀ x ∈ p0, x.block < W.heap.size := by obtain ⟨m, hm⟩ := k0; exact DataW.trod_lt m _ _ _ hm
  obtain ⟨z0, w0⟩ : ∃ zs, IsStrs W a0 len0 cap0 zs := by
    obtain ⟨fuel, hf⟩ := h0
    rcases open_strings Tryd.underlying28 Tryd.underlying9 (by kernel_rfl) hf with ⟨hcs, _⟩ | ⟨x, l, c, zs, hcs, _, hl, hm, hz, _, hcell, hwz⟩
    · simp [Value.cells] at hcs
      obtain ⟨rfl, rfl, rfl⟩ := hcs
      exact ⟨[], .inl ⟨rfl, rfl, rfl, rfl⟩⟩
    · simp [Value.cells] at hcs
      obtain ⟨rfl, rfl, rfl⟩ := hcs
      exact ⟨zs, .inr ⟨_, rfl, hl, hm, by simpa using hz, hcell, hwz⟩⟩
  obtain ⟨a1, len1, cap1, rfl⟩ := okWide_slice Tryd.underlying26 (hval 1 26 v1 rfl rfl)
  have k1 := h1
  have lt1 : ∀ x ∈ p1, x.block < W.heap.size := by obtain ⟨m, hm⟩ := k1; exact DataW.trod_lt m _ _ _ hm
  obtain ⟨z1, w1⟩ : ∃ zs, IsRow .u8 W a1 len1 cap1 zs := by
    obtain ⟨fuel, hf⟩ := h1
    rcases open_ints Tryd.underlying26 Tryd.underlying5 (by kernel_rfl) hf with ⟨hcs, _⟩ | ⟨x, l, c, zs, hcs, _, hl, hm, hz, _, hcell, hwz⟩
    · simp [Value.cells] at hcs
      obtain ⟨rfl, rfl, rfl⟩ := hcs
      exact ⟨[], .inl ⟨rfl, rfl, rfl, rfl⟩⟩
    · simp [Value.cells] at hcs
      obtain ⟨rfl, rfl, rfl⟩ := hcs
      exact ⟨zs, .inr ⟨_, rfl, hl, hm, by simpa using hz, hcell, hwz⟩⟩
  clear hA0 hval0
  refine (walk a0 len0 cap0 z0 a1 len1 cap1 z1 W w0 w1 (tabs hL)).mono fun e W' ⟨he, bel⟩ => ?_
  subst he
  exact ⟨_, rfl, _, _, _, [], _, [], hW', trodAll_mk1 (shut_bool Tryd.underlying4 _), (trodAll_cons_mk (Below.trod laidOut (by kernel_rfl) (of_decide_eq_true (by kernel_rfl)) k0 bel lt0) (trodAll_cons_mk (Below.trod laidOut (by kernel_rfl) (of_decide_eq_true (by kernel_rfl)) k1 bel lt1) trodAll_mk0)), rfl, bel.frame _, fun h => by cases h⟩

def lay (cs : Array Value) : Obj → Obj
  | .cells _ t frozen => .cells cs t frozen
  | o => o
noncomputable def laidWorld (os : Os) : World :=
  { World.holding Tryd.prog os ⟨#[], #[], []⟩ with heap := ((World.holding Tryd.prog os ⟨#[], #[], []⟩).heap.modify 0 (lay #[.int .u32 1779033703, .int .u32 3144134277, .int .u32 1013904242, .int .u32 2773480762, .int .u32 1359893119, .int .u32 2600822924, .int .u32 528734635, .int .u32 1541459225])).modify 1 (lay #[.int .u32 1116352408, .int .u32 1899447441, .int .u32 3049323471, .int .u32 3921009573, .int .u32 961987163, .int .u32 1508970993, .int .u32 2453635748, .int .u32 2870763221, .int .u32 3624381080, .int .u32 310598401, .int .u32 607225278, .int .u32 1426881987, .int .u32 1925078388, .int .u32 2162078206, .int .u32 2614888103, .int .u32 3248222580, .int .u32 3835390401, .int .u32 4022224774, .int .u32 264347078, .int .u32 604807628, .int .u32 770255983, .int .u32 1249150122, .int .u32 1555081692, .int .u32 1996064986, .int .u32 2554220882, .int .u32 2821834349, .int .u32 2952996808, .int .u32 3210313671, .int .u32 3336571891, .int .u32 3584528711, .int .u32 113926993, .int .u32 338241895, .int .u32 666307205, .int .u32 773529912, .int .u32 1294757372, .int .u32 1396182291, .int .u32 1695183700, .int .u32 1986661051, .int .u32 2177026350, .int .u32 2456956037, .int .u32 2730485921, .int .u32 2820302411, .int .u32 3259730800, .int .u32 3345764771, .int .u32 3516065817, .int .u32 3600352804, .int .u32 4094571909, .int .u32 275423344, .int .u32 430227734, .int .u32 506948616, .int .u32 659060556, .int .u32 883997877, .int .u32 958139571, .int .u32 1322822218, .int .u32 1537002063, .int .u32 1747873779, .int .u32 1955562222, .int .u32 2024104815, .int .u32 2227730452, .int .u32 2361852424, .int .u32 2428436474, .int .u32 2756734187, .int .u32 3204031479, .int .u32 3329325298]) }
theorem laid_met (os : Os) : laidMet Tryd.prog Rows.shaPartsRow.laid ((laidWorld os).forCall (fun _ _ => 0) ⟨#[], #[.slice none 0 0, .slice none 0 0], []⟩).memory :=
  laidMet_of_run' 8 (by kernel_rfl) (by kernel_rfl)
theorem reads (os : Os) {H : Type} (enc : TypeId × Value → H) : ∃ places, DataW.whole enc Tryd.prog ((laidWorld os).forCall (fun _ _ => 0) ⟨#[], #[.slice none 0 0, .slice none 0 0], []⟩).memory Tryd.f5.params.toList Rows.shaPartsSpec.vars false (show Array Value from #[.slice none 0 0, .slice none 0 0]).toList 8 = some ([.nil, .nil], [], places) :=
  ⟨[], by kernel_rfl⟩

set_option maxRecDepth 100000 in
theorem lifted (os : Os) (started : os.Started) (H : Type) (enc : TypeId × Value → H) (F : Stop.Interp) :
    ReturnsInHanded {} Tryd.checked os 5 .any ((OpenSpec.ofChange Rows.shaPartsSpec).preRow enc Tryd.prog Tryd.f5 Rows.shaPartsRow.domain false Rows.shaPartsRow.laid) (((OpenSpec.ofChange Rows.shaPartsSpec).at F).post enc Tryd.prog Tryd.f5 false true false false) := by
  obtain ⟨places, hx⟩ := reads os enc
  refine returnsInHanded_of_row (C := Tryd.checked) (s := OpenSpec.ofChange Rows.shaPartsSpec) own started (by kernel_rfl) Tryd.func5
    (witness_row_at (enc := enc) (C := Tryd.checked) false (laidWorld os) #[.slice none 0 0, .slice none 0 0] rfl (by kernel_rfl) (by kernel_rfl) (by kernel_rfl)
      (OpenSpec.preRow_of_cond 8 hx (by kernel_rfl) (fun k hk => by cases hk) (by kernel_rfl) (laid_met os))) ?_
  intro W base args ds gs before hval hW _ _ _ hL _ _
  exact contract H enc W base args ds gs before hval hW hL

theorem said : Rows.ShaPartsSaid :=
  OpenClaim.holds_of_cond 5 Tryd.f5 rfl rfl rfl rfl rfl rfl rfl ⟨rfl, rfl, rfl, rfl, rfl⟩ rfl rfl rfl rfl rfl (by kernel_rfl) Tryd.func5 (by kernel_rfl)
    (of_decide_eq_true (by kernel_rfl)) (by unfold Func.isWrapper; first | (rw [if_pos (by decide +kernel)]; kernel_rfl) | (rw [if_neg (by decide +kernel)]; exact ⟨rfl, rfl⟩))
    (fun os started H enc _ F => by rw [OpenClaim.pre_eq_preRow]; exact lifted os started H enc F)

theorem plain (f : FuncId) (fn : Func) (hf : Tryd.pinned.checked.prog.funcNamed "deaddrop/deaddroplaw2.ShaParts" = some f) (hfn : Tryd.pinned.checked.prog.funcs[f]? = some fn) :
    false = Tryd.pinned.checked.prog.looks [] ∧ ∀ (j : Nat) t, fn.params[j]? = some t → Tryd.pinned.checked.prog.wantsStandIn t = false := by
  obtain rfl : f = 5 := Option.some.inj ((show Tryd.prog.funcNamed "deaddrop/deaddroplaw2.ShaParts" = some 5 by kernel_rfl).symm.trans hf) |>.symm
  obtain rfl : fn = Tryd.f5 := (Option.some.inj (Tryd.func5.symm.trans hfn)).symm
  refine ⟨by kernel_rfl, fun j t ht => ?_⟩
  have hall : (Tryd.f5.params.toList.all fun u => !Tryd.prog.wantsStandIn u) = true := by kernel_rfl
  have hm : t ∈ Tryd.f5.params.toList := by simpa using Array.mem_of_getElem? ht
  exact (show Tryd.prog.wantsStandIn t = false by simpa using List.all_eq_true.1 hall t hm)

theorem card : Rows.ShaPartsCardSaid :=
  Claim7.holds_tied_plain_at .later [] _ _ _ _ said (fun _ h => by cases h) (by kernel_rfl) (fun _ h => by cases h) shaParts_row_tie rfl ⟨rfl, rfl⟩ (by kernel_rfl) rfl plain (by kernel_rfl)
#print axioms card
end Go.Proofs.YtkeincmmcdcggaaDoor.shaParts
