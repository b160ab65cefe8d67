/- Lists of keys, as the document holds them: do they rise, the key of an epoch, are two one. Written by gen_wc7.py. -/
import Derived.Test.YtpcjbjpofcdjeaaGreatDoorTwq
import Derived.Test.YtpcjbjpofcdjeaaGreatDoorWcPq
import Derived.Test.YtpcjbjpofcdjeaaGreatDoorMbSameq
set_option linter.unusedVariables false
set_option maxHeartbeats 8000000
set_option maxRecDepth 100000
namespace Go.Proofs.YtpcjbjpofcdjeaaGreatDoor.Wc
open Go Go.RowKit Mm Td Vw Dt
open Mb Ro
attribute [local go_sem] Td.upon_value Td.upon_skip Td.upon_enter Td.upon_row Td.look_tmp Td.look_const Td.look_func Td.look_global
theorem keyT_fields : Tryz.prog.underlying 31 = some (.struct (Tryz.prog.fieldsOf 31)) := by kernel_rfl
theorem keyT_stood : Tryz.prog.stoodInHeld 31 = false := by kernel_rfl
theorem keyT_guard : Tryz.prog.eqGuardType Tryz.prog.depth 31 = false := by kernel_rfl
theorem keyT_eq (x y : Wp) (W : World) : (Op.equalIn 10000 31 (.agg #[.int .i64 x.d, .string x.box]) (.agg #[.int .i64 y.d, .string y.box])).run Tryz.prog W = .ok (eqW x y) W := by
 rw [run_equalIn_struct W 9999 _ _ _ keyT_fields keyT_stood]
 have hf : (Tryz.prog.fieldsOf 31).toList.map (fun f => (f.name == "_", f.type, f.offset)) = [(false, 3, 0), (false, 9, 1)] := by kernel_rfl
 generalize (Tryz.prog.fieldsOf 31).toList = fs at hf
 obtain ⟨f0, f1, rfl⟩ : ∃ f0 f1, fs = [f0, f1] := by
  rcases fs with _ | ⟨f0, _ | ⟨f1, _ | ⟨f2, r⟩⟩⟩
  ·simp at hf
  ·simp at hf
  ·exact ⟨f0, f1, rfl⟩
  ·simp at hf
 simp only [List.map_cons, List.map_nil, List.cons.injEq, Prod.mk.injEq, and_true, beq_eq_false_iff_ne] at hf
 obtain ⟨⟨n0, t0, o0⟩, n1, t1, o1⟩ := hf
 have hp : Tryz.prog.plainKey 3 = true := by kernel_rfl
 have hs : Tryz.prog.plainKey 9 = true := by kernel_rfl
 have p0 : ∀ (a b : Value), (part 3 #[a, b] 0).run Tryz.prog W = .ok a W := fun a b => run_part_plain W hp rfl
 have p1 : ∀ (a b : Value), (part 9 #[a, b] 1).run Tryz.prog W = .ok b W := fun a b => run_part_plain W hs rfl
 have q : ∀ a b : Int, (Op.equalIn 9999 3 (.int .i64 a) (.int .i64 b)).run Tryz.prog W = .ok (a == b) W := fun a b => run_equalIn_int W 9998 3 .i64 .i64 a b Tryz.underlying3
 have qs : ∀ a b : ByteArray, (Op.equalIn 9999 9 (.string a) (.string b)).run Tryz.prog W = .ok (a.toList == b.toList) W := fun a b => run_equalIn_string W 9998 9 a b Tryz.underlying9
 unfold eqW
 cases h1 : (x.d == y.d) <;> cases h2 : (x.box.toList == y.box.toList) <;>
  simp only [Op.eqFields, n0, t0, o0, n1, t1, o1, p0, p1, q, qs, h1, h2, Sem.run_bind, Sem.run_pure, Result.andThen_ok, ne_eq, not_false_eq_true, if_true, if_false, Bool.not_true, Bool.not_false, Bool.false_eq_true, Bool.true_and, Bool.false_and, Bool.and_self]
theorem keyT_neq (x y : Wp) (W : World) : (binOp .neq 31 (.agg #[.int .i64 x.d, .string x.box]) (.agg #[.int .i64 y.d, .string y.box])).run Tryz.prog W = .ok (.bool (!eqW x y)) W := by
 rw [run_neq_struct, keyT_eq x y W]; rfl
theorem rise_one (l : List Wp) : RiseW (l.take 1) := fun i a b _ h => by
 have := (List.getElem?_eq_some_iff.1 h).1
 rw [List.length_take] at this
 omega
theorem rise_next {l : List Wp} {j : Nat} {x y : Wp} (h : RiseW (l.take (j + 1))) (hx : l[j]? = some x) (hy : l[j + 1]? = some y) (hxy : x.d < y.d) : RiseW (l.take (j + 1 + 1)) := by
 rw [take_snoc hy]
 refine rise_snoc.2 ⟨h, fun a ha => ?_⟩
 rw [last_take hx] at ha
 obtain rfl := Option.some.inj ha
 exact hxy
theorem first_next {l : List Wp} {k : Nat} {x : Wp} {e : Int} (h : firstW (l.take k) e = none) (hx : l[k]? = some x) (hne : x.d ≠ e) : firstW (l.take (k + 1)) e = none := by
 unfold firstW at h ⊢
 rw [take_snoc hx, List.find?_append, h]
 simp [hne]
theorem first_found {l : List Wp} {k : Nat} {x : Wp} {e : Int} (h : firstW (l.take k) e = none) (hx : l[k]? = some x) (he : x.d = e) : firstW l e = some x := by
 unfold firstW at h ⊢
 have hk := (List.getElem?_eq_some_iff.1 hx).1
 have hd : l.drop k = x :: l.drop (k + 1) := by rw [List.drop_eq_getElem_cons hk, (List.getElem?_eq_some_iff.1 hx).2]
 rw [← List.take_append_drop k l, List.find?_append, h, hd]
 simp [he]
theorem first_end {l : List Wp} {k : Nat} {e : Int} (h : firstW (l.take k) e = none) (hk : l.length = k) : firstW l e = none := by rwa [List.take_of_length_le (by omega)] at h
theorem refRising_any (A : Option Addr) (n c : Nat) (l : List Wp) (w : World) (hl : WL w A n l) (hn : n ≤ 1099511627776) :
  Calls Tryz.prog 50 #[.slice A n c] w (BoolIs (RiseW l) w) := by
 have Hl := qj hl
 have Hn := qj hn
 clear hl hn
 go_enter Tryz.func50, Tryz.ntmps50
 go_wp2_with fail
 go_loopw [3] (fun i wr => ∃ k : Nat, (1 ≤ k ∧ (k ≤ n ∨ k = 1)) ∧ i = .int .i64 k ∧ Hid (RiseW (l.take k)) ∧ Gn w wr) (fun i _ => n - (intOf i).toNat)
 case atStart => exact ⟨1, ⟨by omega, .inr rfl⟩, rfl, rise_one l, gb_refl _ _⟩
 case round =>
  obtain ⟨k, ⟨hk1, hk⟩, rfl, HK, hg⟩ := hrel
  by_cases hlt : k < n
  ·have d1 : decide (k < n) = true := decide_eq_true hlt
   have d2 : decide ((k : Int) < (n : Int)) = true := dcT
   have hWL := Hl.out.keep hg
   obtain ⟨g, o, rfl, hgl, _⟩ := hWL.2 (by omega)
   go_upto_region 4 with fail
   clear d1 d2
   obtain ⟨j, rfl⟩ : ∃ j, k = j + 1 := ⟨k - 1, by omega⟩
   obtain ⟨x, hx⟩ : ∃ x, l[j]? = some x := ⟨_, List.getElem?_eq_getElem (by rw [hWL.1]; omega)⟩
   obtain ⟨y, hy⟩ : ∃ y, l[j + 1]? = some y := ⟨_, List.getElem?_eq_getElem (by rw [hWL.1]; omega)⟩
   have HX : Hid (∀ W, Gn wr W → WAt W g (o + j * 2) x ∧ WAt W g (o + (j + 1) * 2) y) := fun W hW => ⟨(wl_of hWL hx).2.kept hgl hW (by simp), (wl_of hWL hy).2.kept hgl hW (by simp)⟩
   have HJ : Hid (((j + 1 : Nat) : Int) - 1 = (j : Int) ∧ (j : Int) < (n : Int) ∧ IntKind.i64.wrap (((j + 1 : Nat) : Int) - 1) = (j : Int) ∧ IntKind.i64.wrap (j : Int) = (j : Int)) := ⟨by omega, by omega, by rw [IntKind.wrap_i64]; have := Hn.out; omega, by rw [IntKind.wrap_i64]; have := Hn.out; omega⟩
   have HB : Hid (0 ≤ (j : Int) + 1 ∧ (j : Int) + 1 < (n : Int)) := ⟨by omega, by omega⟩
   have Hx := qj hx
   have Hy := qj hy
   have Hlt := qj hlt
   clear hWL hx hy hgl hk hk1 hlt
   by_cases hxy : x.d < y.d
   case' pos =>
    have v1 : decide (y.d ≤ x.d) = false := dcF
    have HN := qj (rise_next HK.out Hx.out Hy.out hxy)
    clear hxy
   case' neg =>
    have v1 : decide (y.d ≤ x.d) = true := dcT
    have HF : Hid (¬ RiseW l) := fun h => hxy (h j x y Hx.out Hy.out)
    clear hxy
   all_goals
    refine tw_go ?_
    refine tw_h 0 ?_
    refine tw_h 3 ?_
    apply tw_xe 0 11
    ·intro W f hW e11 K hK; obtain ⟨z1, z2, z3, z5⟩ := HJ.out; go_simp; exact kK hK
    apply tw_xee 2 10 0 12
    ·intro W f hW ⟨e10, e12⟩ K hK; obtain ⟨z1, z2, z3, z5⟩ := HJ.out; go_simp; exact kK hK
    refine tw_e 0 13 ?_
    apply tw_xe 0 14
    ·intro W f hW e14 K hK; obtain ⟨⟨c0, c1⟩, _⟩ := HX.out W hW; go_simp; exact kK hK
    refine tw_h 0 ?_
    refine tw_h 3 ?_
    apply tw_xee 1 16 0 17
    ·intro W f hW ⟨e16, e17⟩ K hK; obtain ⟨bk0, bk⟩ := HB.out; go_simp; exact kK hK
    refine tw_e 0 18 ?_
    apply tw_xe 0 19
    ·intro W f hW e19 K hK; obtain ⟨_, c0, c1⟩ := HX.out W hW; go_simp; exact kK hK
    refine tw_ee 5 15 0 20 ?_
    refine tw_nil fun W f hW hA => ?_
    have e21 : f 21 = _ := hA 0 (some 21) _ rfl
    rw [e21]
    clear hA
    have Hw := qj hW
    clear hW
    first | (have hf := HF.out; clear hf; go_wp2_with fail; go_ret; exact .of_no HF.out (gb_none hg Hw.out)) | (have b8 := Hn.out; have b9 := Hlt.out; go_wp2_with fail; go_roundw; (case rel => exact ⟨j + 1 + 1, ⟨by omega, .inl (by have := Hlt.out; omega)⟩, by go_num, HN.out, gb_none hg Hw.out⟩); (case measure => simp [intOf]; have := Hlt.out; omega))
  ·have d1 : decide (k < n) = false := decide_eq_false hlt
   have d2 : decide ((k : Int) < (n : Int)) = false := dcF
   have He : Hid (RiseW l) := by
    have h := HK.out
    rwa [List.take_of_length_le (by rw [Hl.out.1]; omega)] at h
   clear hlt hk hk1
   go_wp2_with fail
   go_ret
   exact .of_yes He.out hg
theorem refSameKeys_any (A B : Option Addr) (n c m d : Nat) (p q : List Wp) (w : World) (ha : WL w A n p) (hb : WL w B m q) (hn : n ≤ 1099511627776) :
  Calls Tryz.prog 23 #[.slice A n c, .slice B m d] w (BoolIs (p = q) w) := by
 have Ha := qj ha
 have Hb := qj hb
 clear ha hb
 by_cases hnm : n = m
 ·subst hnm
  have e0 : ((n : Int) != (n : Int)) = false := by simp
  go_enter Tryz.func23, Tryz.ntmps23
  go_wp2_with fail
  go_loopw [5] (fun i wr => ∃ k : Nat, k ≤ n ∧ i = .int .i64 k ∧ Hid (p.take k = q.take k) ∧ Gn w wr) (fun i _ => n - (intOf i).toNat)
  case atStart => exact ⟨0, Nat.zero_le _, rfl, by show _ = _; rfl, gb_refl _ _⟩
  case round =>
   obtain ⟨k, hk, rfl, HX, hg⟩ := hrel
   by_cases hlt : k < n
   ·have d1 : decide (k < n) = true := decide_eq_true hlt
    have d2 : decide ((k : Int) < (n : Int)) = true := dcT
    have bk : (k : Int) < (n : Int) := by omega
    have hA := Ha.out.keep hg
    have hB := Hb.out.keep hg
    obtain ⟨g, o, rfl, hgl, _⟩ := hA.2 (by omega)
    obtain ⟨g', o', rfl, hgl', _⟩ := hB.2 (by omega)
    obtain ⟨x, hx⟩ : ∃ x, p[k]? = some x := ⟨_, List.getElem?_eq_getElem (by rw [Ha.out.1]; exact hlt)⟩
    obtain ⟨y, hy⟩ : ∃ y, q[k]? = some y := ⟨_, List.getElem?_eq_getElem (by rw [Hb.out.1]; exact hlt)⟩
    obtain ⟨_, h0, h1⟩ := wl_of hA hx
    obtain ⟨_, i0, i1⟩ := wl_of hB hy
    have Hx := qj hx
    have Hy := qj hy
    clear hA hB hx hy
    have hq := fun (W : World) => keyT_neq x y W
    have hG := keyT_guard
    have hT := take_snoc Hx.out
    have hT2 := take_snoc Hy.out
    by_cases hxy : x = y
    ·have he : eqW x y = true := (eqW_iff x y).2 hxy
     have Hnext : Hid (p.take (k + 1) = q.take (k + 1)) := by show _ = _; rw [hT, hT2, HX.out, hxy]
     rw [he] at hq
     clear hT hT2 hxy he
     go_wp2_with fail
     go_quiet (fail)
     go_wp2_with fail
     go_roundw
     case rel => exact ⟨k + 1, by omega, by go_num, Hnext, gb_drewN hg _⟩
     case measure => simp [intOf]; omega
    ·have he : eqW x y = false := by
      cases h : eqW x y with
      | false => rfl
      | true => exact absurd ((eqW_iff x y).1 h) hxy
     have Hno : Hid (p ≠ q) := fun h => hxy (by
       have h1 := Hx.out
       rw [h, Hy.out] at h1
       exact (Option.some.inj h1).symm)
     rw [he] at hq
     clear hT hT2 hxy he
     go_wp2_with fail
     go_quiet (fail)
     go_wp2_with fail
     go_ret
     exact .of_no Hno.out (gb_drewN hg _)
   ·have hkn : k = n := by omega
    subst hkn
    have d1 : decide (k < k) = false := by simp
    have d2 : decide ((k : Int) < (k : Int)) = false := by simp
    have He : Hid (p = q) := by
     show p = q
     have h := HX.out
     rwa [List.take_of_length_le (by rw [Ha.out.1]; exact Nat.le_refl _), List.take_of_length_le (by rw [Hb.out.1]; exact Nat.le_refl _)] at h
    go_wp2_with fail
    go_ret
    exact .of_yes He.out hg
 ·have e0 : ((n : Int) != (m : Int)) = true := by rw [bne_iff_ne]; omega
  have Hno : Hid (p ≠ q) := fun h => hnm (by rw [← Ha.out.1, ← Hb.out.1, h])
  clear hnm
  go_enter Tryz.func23, Tryz.ntmps23
  go_wp2_with fail
  go_ret
  exact .of_no Hno.out (gb_refl _ _)
theorem refKeyOf_any (A : Option Addr) (n c : Nat) (l : List Wp) (e : Int) (w : World) (hl : WL w A n l) (hn : n ≤ 1099511627776) :
  Calls Tryz.prog 28 #[.slice A n c, .int .i64 e] w fun x w' => x = .returned (.agg #[.string ((keyOf l e).getD ⟨#[]⟩), .bool (keyOf l e).isSome]) ∧ Gn w w' := by
 obtain ⟨b0, hb0⟩ := nmd (w.heap.size)
 obtain ⟨W0, hW0⟩ := nmd (w.alloc (.cells #[.string ⟨#[]⟩, .bool false] 41))
 have g0 : Gn w W0 := by rw [← hW0]; exact gb_alloc (gb_refl _ _) _
 have HB : Hid (∀ W, Gn W0 W → Row W b0 41 #[.string ⟨#[]⟩, .bool false]) := fun W hW => by
  rw [← hW0] at hW
  rw [← hb0]
  exact (Row.new _ _ _).kept hW (by simp)
 have Hb0 : Hid (w.heap.size ≤ b0) := by show _ ≤ _; omega
 have HG := qj g0
 have Hl := qj (hl.keep g0)
 have Hn := qj hn
 clear hl hn g0
 go_enter Tryz.func28, Tryz.ntmps28
 go_upto_region 1 with fail
 clear hW0 hb0
 go_wp2_with fail
 go_loopw [5] (fun i wr => ∃ k : Nat, k ≤ n ∧ i = .int .i64 k ∧ Hid (firstW (l.take k) e = none) ∧ Gn W0 wr) (fun i _ => n - (intOf i).toNat)
 case atStart => exact ⟨0, Nat.zero_le _, rfl, rfl, gb_refl _ _⟩
 case round =>
  obtain ⟨k, hk, rfl, HK, hg⟩ := hrel
  have HR := qj (HB.out wr hg)
  have c0 := HR.out.at_ (i := 0) rfl
  have c1 := HR.out.at_ (i := 1) rfl
  have f0 := HR.out.free 0
  have f1 := HR.out.free 1
  by_cases hlt : k < n
  ·have d1 : decide (k < n) = true := decide_eq_true hlt
   have d2 : decide ((k : Int) < (n : Int)) = true := dcT
   have bk : (k : Int) < (n : Int) := by omega
   have hWL := Hl.out.keep hg
   obtain ⟨g, o, rfl, hgl, _⟩ := hWL.2 (by omega)
   obtain ⟨x, hx⟩ : ∃ x, l[k]? = some x := ⟨_, List.getElem?_eq_getElem (by rw [hWL.1]; omega)⟩
   obtain ⟨_, h0, h1⟩ := wl_of hWL hx
   have Hx := qj hx
   have Hlt := qj hlt
   have Hgg := qj (gb_none HG.out hg)
   clear hWL hx hgl hk
   by_cases he : x.d = e
   ·have t1 : (x.d == e) = true := by rw [he]; exact beq_self_eq_true _
    have HE : Hid (keyOf l e = some x.box) := by show _ = _; unfold keyOf; rw [first_found HK.out Hx.out he]; rfl
    clear he hlt
    go_wp2_with fail
    have HB4 := (HR.out.set_ 0 (.string x.box)).set_ 1 (.bool true)
    have q0 := HB4.at_ (i := 0) rfl
    have q1 := HB4.at_ (i := 1) rfl
    refine bodyPost_ret (v := .agg #[.string x.box, .bool true]) (by simp [results, Tryz.results28, go_sem, q0, q1]) rfl ?_
    exact ⟨by rw [HE.out]; rfl, gb_new (gb_new Hgg.out (gb_set1 _ _ _ _) Hb0.out) (gb_set1 _ _ _ _) Hb0.out⟩
   ·have t1 : (x.d == e) = false := by rw [beq_eq_false_iff_ne]; exact he
    have HN := qj (first_next HK.out Hx.out he)
    clear he
    have b8 := Hn.out
    go_wp2_with fail
    go_roundw
    case rel => exact ⟨k + 1, by omega, by go_num, HN.out, hg⟩
    case measure => simp [intOf]; omega
  ·have hkn : k = n := by omega
   subst hkn
   have d1 : decide (k < k) = false := by simp
   have d2 : decide ((k : Int) < (k : Int)) = false := by simp
   have HE : Hid (keyOf l e = none) := by show _ = _; unfold keyOf; rw [first_end HK.out Hl.out.1]; rfl
   have Hgg := qj (gb_none HG.out hg)
   go_wp2_with fail
   have HB4 := (HR.out.set_ 0 (.string ⟨#[]⟩)).set_ 1 (.bool false)
   have q0 := HB4.at_ (i := 0) rfl
   have q1 := HB4.at_ (i := 1) rfl
   refine bodyPost_ret (v := .agg #[.string ⟨#[]⟩, .bool false]) (by simp [results, Tryz.results28, go_sem, q0, q1]) rfl ?_
   exact ⟨by rw [HE.out]; rfl, gb_new (gb_new Hgg.out (gb_set1 _ _ _ _) Hb0.out) (gb_set1 _ _ _ _) Hb0.out⟩
end Go.Proofs.YtpcjbjpofcdjeaaGreatDoor.Wc
