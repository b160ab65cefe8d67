/- The program's may, take, behind, In, Members. Written by gen_ro.py. -/
import Derived.Test.YtpcjbjpofcdjeaaGreatDoorTwq
import Derived.Test.YtpcjbjpofcdjeaaGreatDoorRoAq
set_option linter.unusedVariables false
set_option maxHeartbeats 16000000
set_option maxRecDepth 100000
namespace Go.Proofs.YtpcjbjpofcdjeaaGreatDoor.Ro
open Go Go.RowKit Mm Td Vw Dt
open Mb
attribute [local go_sem] Td.upon_value Td.upon_skip Td.upon_enter Td.upon_row Td.look_tmp Td.look_const Td.look_func Td.look_global
theorem pmay_any (d : Int) (w : World) : Calls Tryz.prog 101 #[.int .i64 d] w fun e w' => e = .returned (.bool (decide (0 ≤ d) && decide (d < 8))) ∧ w = w' := by
 go_enter Tryz.func101, Tryz.ntmps101
 go_upto_region 1 with fail
 by_cases h0 : 0 ≤ d
 ·have q1 : decide (0 ≤ d) = true := decide_eq_true h0
  by_cases h8 : d < 8
  ·have q2 : decide (d < 8) = true := decide_eq_true h8
   have HE : Hid ((decide (0 ≤ d) && decide (d < 8)) = true) := by show _ = _; rw [q1, q2]; rfl
   clear h0 h8
   go_wp2_with fail
   go_ret
   exact ⟨by rw [HE.out]; rfl, rfl⟩
  ·have q2 : decide (d < 8) = false := decide_eq_false h8
   have HE : Hid ((decide (0 ≤ d) && decide (d < 8)) = false) := by show _ = _; rw [q1, q2]; rfl
   clear h0 h8
   go_wp2_with fail
   go_ret
   exact ⟨by rw [HE.out]; rfl, rfl⟩
 ·have q1 : decide (0 ≤ d) = false := decide_eq_false h0
  have HE : Hid ((decide (0 ≤ d) && decide (d < 8)) = false) := by show _ = _; rw [q1]; rfl
  clear h0
  go_wp2_with fail
  go_ret
  exact ⟨by rw [HE.out]; rfl, rfl⟩
def TookIs (b : Nat) (kd d : Int) (w : World) (e : Ending) (w' : World) : Prop :=
 ((¬ ((0 ≤ d ∧ d < 8) ∧ (kd = 1 ∨ kd = 2))) ∧ e = .returned (.tuple #[]) ∧ w' = w) ∨
 (∃ j : Nat, d = (j : Int) ∧ j < 8 ∧ (kd = 1 ∨ kd = 2) ∧ e = .returned (.tuple #[]) ∧ w' = w.setCell ⟨b, j, none⟩ (.bool (decide (kd = 1))))
theorem ptake_any (b : Nat) (cs : Array Value) (kd d : Int) (w : World) (hr : Row w b 98 cs) (h8 : cs.size = 8) :
  Calls Tryz.prog 114 #[.pointer (some ⟨b, 0, none⟩), .int .i64 kd, .int .i64 d] w (TookIs b kd d w) := by
 go_enter Tryz.func114, Tryz.ntmps114
 go_upto_region 1 with fail
 by_cases h1 : kd = 1
 ·have h1e : ((kd : Int) == 1) = true := eq_yes h1
  have HK : Hid (kd = 1 ∨ kd = 2) := .inl h1
  have HQ : Hid (decide (kd = 1) = true) := decide_eq_true h1
  clear h1
  by_cases hd : 0 ≤ d ∧ d < 8
  ·have HM : Hid ((decide (0 ≤ d) && decide (d < 8)) = true) := by show _ = _; rw [decide_eq_true hd.1, decide_eq_true hd.2]; rfl
   obtain ⟨j, rfl⟩ : ∃ j : Nat, d = (j : Int) := ⟨d.toNat, by omega⟩
   have hj : j < 8 := by omega
   have bk : (j : Int) < 8 := by omega
   obtain ⟨c, hc0⟩ : ∃ c, cs[j]? = some c := ⟨_, Array.getElem?_eq_getElem (by omega)⟩
   have hc : w.cell? ⟨b, j, none⟩ = some c := hr.at_ hc0
   have hf : w.frozen? ⟨b, j, none⟩ = false := hr.free j
   have Hj := qj hj
   clear hd hr h8 hj hc0
   go_wp2_with fail
   refine (pmay_any _ w).mono ?_
   rintro e _ ⟨rfl, rfl⟩
   rw [HM.out]
   go_wp2_with fail
   go_end0
   exact .inr ⟨j, rfl, Hj.out, HK.out, rfl, by rw [HQ.out]⟩
  ·have HM : Hid ((decide (0 ≤ d) && decide (d < 8)) = false) := by
    show _ = _
    by_cases h : 0 ≤ d
    ·rw [decide_eq_false (fun h2 => hd ⟨h, h2⟩), Bool.and_false]
    ·rw [decide_eq_false h]; rfl
   have Hd := qj hd
   clear hd hr h8
   go_wp2_with fail
   refine (pmay_any _ w).mono ?_
   rintro e _ ⟨rfl, rfl⟩
   rw [HM.out]
   go_wp2_with fail
   go_end0
   exact .inl ⟨fun h => Hd.out h.1, rfl, rfl⟩
 ·have h1e : ((kd : Int) == 1) = false := eq_no h1
  by_cases h2 : kd = 2
  ·have h2e : ((kd : Int) == 2) = true := eq_yes h2
   have HK : Hid (kd = 1 ∨ kd = 2) := .inr h2
   have HQ : Hid (decide (kd = 1) = false) := decide_eq_false h1
   clear h1 h2
   by_cases hd : 0 ≤ d ∧ d < 8
   ·have HM : Hid ((decide (0 ≤ d) && decide (d < 8)) = true) := by show _ = _; rw [decide_eq_true hd.1, decide_eq_true hd.2]; rfl
    obtain ⟨j, rfl⟩ : ∃ j : Nat, d = (j : Int) := ⟨d.toNat, by omega⟩
    have hj : j < 8 := by omega
    have bk : (j : Int) < 8 := by omega
    obtain ⟨c, hc0⟩ : ∃ c, cs[j]? = some c := ⟨_, Array.getElem?_eq_getElem (by omega)⟩
    have hc : w.cell? ⟨b, j, none⟩ = some c := hr.at_ hc0
    have hf : w.frozen? ⟨b, j, none⟩ = false := hr.free j
    have Hj := qj hj
    clear hd hr h8 hj hc0
    go_wp2_with fail
    refine (pmay_any _ w).mono ?_
    rintro e _ ⟨rfl, rfl⟩
    rw [HM.out]
    go_wp2_with fail
    go_end0
    exact .inr ⟨j, rfl, Hj.out, HK.out, rfl, by rw [HQ.out]⟩
   ·have HM : Hid ((decide (0 ≤ d) && decide (d < 8)) = false) := by
     show _ = _
     by_cases h : 0 ≤ d
     ·rw [decide_eq_false (fun h2 => hd ⟨h, h2⟩), Bool.and_false]
     ·rw [decide_eq_false h]; rfl
    have Hd := qj hd
    clear hd hr h8
    go_wp2_with fail
    refine (pmay_any _ w).mono ?_
    rintro e _ ⟨rfl, rfl⟩
    rw [HM.out]
    go_wp2_with fail
    go_end0
    exact .inl ⟨fun h => Hd.out h.1, rfl, rfl⟩
  ·have h2e : ((kd : Int) == 2) = false := eq_no h2
   have HN : Hid (¬ (kd = 1 ∨ kd = 2)) := fun h => h.elim h1 h2
   clear h1 h2 hr h8
   go_wp2_with fail
   go_end0
   exact .inl ⟨fun h => HN.out h.2, rfl, rfl⟩
theorem size8 : (Tryz.prog.info? 98).map (·.size) = some 8 := by kernel_rfl
theorem log_idx {w : World} {g o n : Nat} {l : List Rc} (h : LogL w (some ⟨g, o, none⟩) n l) {i : Nat} {r : Rc} (hr : l[i]? = some r) : w.cell? ⟨g, o + i * 6, none⟩ = some (.int .i64 r.seq) ∧ w.cell? ⟨g, o + i * 6 + 2, none⟩ = some (.int .i64 r.kind) ∧ w.cell? ⟨g, o + i * 6 + 3, none⟩ = some (.int .i64 r.dev) := by
 obtain ⟨_, A, c, z0, _, z2, z3, _⟩ := Mb.log_rec h hr
 exact ⟨z0, z2, z3⟩
theorem behind_any (A : Option Addr) (n c : Nat) (l : List Rc) (e : Int) (w : World) (hl : LogL w A n l) (hn : n ≤ 1099511627776) :
  Calls Tryz.prog 70 #[.slice A n c, .int .i64 e] w fun x w' => x = .returned (.agg (pres l e)) ∧ Gn w w' := by
 have Hl := qj hl
 have Hn := qj hn
 obtain ⟨h0, hh0⟩ := nmd (w.heap.size)
 obtain ⟨h1, hh1⟩ := nmd (h0 + 1)
 obtain ⟨W0, hW0⟩ := nmd ((w.alloc (.cells #[.bool false, .bool false, .bool false, .bool false, .bool false, .bool false, .bool false, .bool false] 98)).alloc (.cells #[.bool false, .bool false, .bool false, .bool false, .bool false, .bool false, .bool false, .bool false] 98))
 have hr0 : Row W0 h0 98 #[.bool false, .bool false, .bool false, .bool false, .bool false, .bool false, .bool false, .bool false] := by rw [← hW0, ← hh0]; exact (Row.new _ _ _).alloc _
 have hr1 : Row W0 h1 98 #[.bool false, .bool false, .bool false, .bool false, .bool false, .bool false, .bool false, .bool false] := by
  rw [← hW0, ← hh1, ← hh0]
  have h := Row.new (w.alloc (.cells #[.bool false, .bool false, .bool false, .bool false, .bool false, .bool false, .bool false, .bool false] 98)) 98 #[.bool false, .bool false, .bool false, .bool false, .bool false, .bool false, .bool false, .bool false]
  rwa [World.size_alloc] at h
 have G0 : Gn w W0 := by rw [← hW0]; exact gb_alloc (gb_alloc (gb_refl _ _) _) _
 have Hh0 : Hid (w.heap.size ≤ h0 ∧ w.heap.size ≤ h1 ∧ h0 ≠ h1) := by show _ ∧ _; omega
 have HR0 := qj hr0
 have HR1 := qj hr1
 have HG := qj G0
 clear hl hn hr0 hr1 G0
 go_enter Tryz.func70, Tryz.ntmps70
 go_upto_region 2 with fail
 clear hW0 hh0 hh1
 go_wp2_with fail
 go_loopw [9] (fun iv wr => ∃ k : Nat, k ≤ n ∧ iv = .int .i64 k ∧ Hid (Row wr h1 98 (pres (l.take k) e)) ∧ Hid (Row wr h0 98 #[.bool false, .bool false, .bool false, .bool false, .bool false, .bool false, .bool false, .bool false]) ∧ Gn w wr) (fun iv _ => n - (intOf iv).toNat)
 case atStart => exact ⟨0, Nat.zero_le _, rfl, by rw [List.take_zero, pres_nil]; exact HR1, HR0, HG.out⟩
 case round =>
  obtain ⟨k, hk, rfl, hp, hz, hg⟩ := hrel
  by_cases hlt : k < n
  ·have d1 : decide (k < n) = true := decide_eq_true hlt
   have d2 : decide ((k : Int) < (n : Int)) = true := dcT
   have bk : (k : Int) < (n : Int) := by omega
   have t1 : IntKind.i64.wrap ((k : Int) + 1) = ((k + 1 : Nat) : Int) := by rw [IntKind.wrap_i64]; have := Hn.out; omega
   have hLL := Hl.out.keep hg
   obtain ⟨g, o, rfl, hgl, _⟩ := hLL.2 (by omega)
   obtain ⟨r, hx⟩ : ∃ r, l[k]? = some r := ⟨_, List.getElem?_eq_getElem (by rw [Hl.out.1]; exact hlt)⟩
   obtain ⟨z0, z2, z3⟩ := log_idx hLL hx
   have HZ0 : ∀ W, Gn wr W → W.cell? ⟨g, o + k * 6 + 2, none⟩ = some (.int .i64 r.kind) ∧ W.cell? ⟨g, o + k * 6 + 3, none⟩ = some (.int .i64 r.dev) := fun W hW => (log_idx (hLL.keep hW) hx).2
   have Ht1 := qj t1
   have HT : Hid (l.take (k + 1) = l.take k ++ [r]) := take_rec hx
   have Hlt := qj hlt
   have Hg := qj hg
   clear hx hlt hk hgl hLL hg
   by_cases hs : r.seq ≤ e
   ·have q1 : decide (r.seq ≤ e) = true := decide_eq_true hs
    have HTk : Hid (∀ W, Gn wr W → Calls Tryz.prog 114 #[.pointer (some ⟨h1, 0, none⟩), .int .i64 r.kind, .int .i64 r.dev] W (TookIs h1 r.kind r.dev W)) := fun W hW => ptake_any h1 (pres (l.take k) e) r.kind r.dev W (hp.out.kept hW (by simp)) (pres_size _ _)
    have HZ : Hid (∀ W, Gn wr W → W.cell? ⟨g, o + k * 6 + 2, none⟩ = some (.int .i64 r.kind) ∧ W.cell? ⟨g, o + k * 6 + 3, none⟩ = some (.int .i64 r.dev)) := HZ0
    have Hs := qj hs
    have Hbk := qj bk
    clear hs
    go_upto_region 6 with fail
    clear z0 z2 z3 q1 t1 bk d1 d2
    refine th_go 10 ?_
    refine th_h 0 ?_
    refine th_h 6 ?_
    apply th_is
    ·intro W f hW hE h0 K hK; have e19 := hE.of 1 19; have e20 := hE.of 0 20; clear hE h0; refine yes_f ?_; have bk := Hbk.out; go_simp; exact kK hK
    refine th_e 0 21 ?_
    apply th_is
    ·intro W f hW hE h0 K hK; have e22 := hE.of 0 22; clear hE h0; refine yes_f ?_; obtain ⟨z2, z3⟩ := HZ.out W hW; go_simp; exact kK hK
    refine th_h 0 ?_
    refine th_h 6 ?_
    apply th_is
    ·intro W f hW hE h0 K hK; have e24 := hE.of 1 24; have e25 := hE.of 0 25; clear hE h0; refine yes_f ?_; have bk := Hbk.out; go_simp; exact kK hK
    refine th_e 0 26 ?_
    apply th_is
    ·intro W f hW hE h0 K hK; have e27 := hE.of 0 27; clear hE h0; refine yes_f ?_; obtain ⟨z2, z3⟩ := HZ.out W hW; go_simp; exact kK hK
    refine th_nil fun W f hW hA => ?_
    simp only [List.take_succ_cons, List.take_zero, List.drop_succ_cons, List.drop_zero, lexIn, Act.put, List.setIfInBounds_toArray, List.set_cons_zero, List.set_cons_succ]
    have e23 : f 23 = _ := hA 5 (some 23) _ rfl
    rw [e23]
    have e28 : f 28 = _ := hA 0 (some 28) _ rfl
    rw [e28]
    clear hA
    have HW := qj hW
    clear hW
    have t1 := Ht1.out
    go_wp2_with fail
    refine (HTk.out W HW.out).mono ?_
    intro x w1 hh
    rcases hh with ⟨hno, he, hw⟩ | ⟨j, hd, hj, hkd, he, hw⟩
    ·subst he
     subst hw
     have HP : Hid (Row w1 h1 98 (pres (l.take (k + 1)) e) ∧ Row w1 h0 98 #[.bool false, .bool false, .bool false, .bool false, .bool false, .bool false, .bool false, .bool false] ∧ Gn w w1) := by
      rw [HT.out, pres_keep fun h => hno h.2]
      exact ⟨hp.out.kept HW.out (by simp), hz.out.kept HW.out (by simp), gb_none Hg.out HW.out⟩
     clear hno
     go_wp2_with fail
     go_roundw
     case rel => exact ⟨k + 1, by have := Hlt.out; omega, by go_num, HP.out.1, HP.out.2.1, HP.out.2.2⟩
     case measure => simp [intOf]; have := Hlt.out; omega
    ·subst he
     have HP : Hid (Row w1 h1 98 (pres (l.take (k + 1)) e) ∧ Row w1 h0 98 #[.bool false, .bool false, .bool false, .bool false, .bool false, .bool false, .bool false, .bool false] ∧ Gn w w1) := by
      rw [hw, HT.out, pres_set Hs.out hd hj hkd rfl]
      exact ⟨(hp.out.kept HW.out (by simp)).set_ _ _, (hz.out.kept HW.out (by simp)).far Hh0.out.2.2 _, gb_new (gb_none Hg.out HW.out) (gb_set1 _ _ _ _) Hh0.out.2.1⟩
     clear hw hd hj hkd HTk hp hz
     go_wp2_with fail
     go_roundw
     case rel => exact ⟨k + 1, by have := Hlt.out; omega, by go_num, HP.out.1, HP.out.2.1, HP.out.2.2⟩
     case measure => simp [intOf]; have := Hlt.out; omega
   ·have q1 : decide (r.seq ≤ e) = false := decide_eq_false hs
    have HP : Hid (pres (l.take (k + 1)) e = pres (l.take k) e) := by show _ = _; rw [HT.out]; exact pres_keep fun h => hs h.1
    clear hs
    go_wp2_with fail
    go_roundw
    case rel => exact ⟨k + 1, by have := Hlt.out; omega, by go_num, by rw [HP.out]; exact hp, hz, Hg.out⟩
    case measure => simp [intOf]; have := Hlt.out; omega
  ·have hkn : k = n := by omega
   subst hkn
   have d1 : decide (k < k) = false := by simp
   have d2 : decide ((k : Int) < (k : Int)) = false := by simp
   have HP : Hid (pres (l.take k) e = pres l e) := by show _ = _; rw [List.take_of_length_le (by rw [Hl.out.1]; exact Nat.le_refl _)]
   rw [HP.out] at hp
   have hone := pres_one l e
   have hsz : (Tryz.prog.info? 98).map (·.size) = some (pres l e).size := size8
   have Hone := qj hone
   have Hsz := qj hsz
   have Hzz : Hid ((#[.bool false, .bool false, .bool false, .bool false, .bool false, .bool false, .bool false, .bool false] : Array Value).size = (pres l e).size) := rfl
   clear hone hsz HP hlt hk
   obtain ⟨P, hP⟩ := nmd (pres l e)
   rw [hP] at hp Hone Hsz Hzz
   have HPP := qj hP
   clear hP
   have Hg := qj hg
   clear hg
   go_wp2_with (first
    | (refine wpList_load_row rfl 98 (.tmp 5) rfl h1 rfl 98 P (0, 0) _ hp.out Tryz.underlying98 rfl Hsz.out ?_)
    | (refine wpList_store_row rfl 98 (.tmp 4) (.tmp 31) rfl h0 P rfl rfl 98 _ hz.out Hsz.out Hzz.out Hone.out ?_))
   refine bodyPost_ret (results_cell_row rfl _ _ h0 98 P (0, 0) _ rfl (hz.out.setRow_ P) Tryz.underlying98 rfl Hsz.out) rfl ?_
   exact ⟨by rw [HPP.out], gb_new Hg.out (gb_setRow1 _ _ _) Hh0.out.1⟩
theorem pres_idx (l : List Rc) (e : Int) {j : Nat} (hj : j < 8) (W : World) : (Instr.index 98 (.agg (pres l e)) (.int .i64 (j : Int))).run Tryz.prog W = .ok (.bool (inB l e (j : Int))) W := by
 rcases (show j = 0 ∨ j = 1 ∨ j = 2 ∨ j = 3 ∨ j = 4 ∨ j = 5 ∨ j = 6 ∨ j = 7 by omega) with rfl | rfl | rfl | rfl | rfl | rfl | rfl | rfl <;> (show _ = _; unfold pres; kernel_rfl)
theorem pIn_any (A : Option Addr) (n c : Nat) (l : List Rc) (e d : Int) (w : World) (hl : LogL w A n l) (hn : n ≤ 1099511627776) :
  Calls Tryz.prog 60 #[.slice A n c, .int .i64 e, .int .i64 d] w fun x w' => x = .returned (.bool (inB l e d)) ∧ Gn w w' := by
 have HB := qj (behind_any A n c l e w hl hn)
 clear hl hn
 by_cases hd : 0 ≤ d ∧ d < 8
 ·have HM : Hid ((decide (0 ≤ d) && decide (d < 8)) = true) := by show _ = _; rw [decide_eq_true hd.1, decide_eq_true hd.2]; rfl
  obtain ⟨j, rfl⟩ : ∃ j : Nat, d = (j : Int) := ⟨d.toNat, by omega⟩
  have HI : Hid (∀ W, (Instr.index 98 (.agg (pres l e)) (.int .i64 (j : Int))).run Tryz.prog W = .ok (.bool (inB l e (j : Int))) W) := pres_idx l e (by omega)
  clear hd
  generalize pres l e = P at *
  generalize inB l e (j : Int) = q at *
  go_enter Tryz.func60, Tryz.ntmps60
  go_upto_region 1 with fail
  go_wp2_with fail
  refine (pmay_any _ w).mono ?_
  rintro x _ ⟨rfl, rfl⟩
  rw [HM.out]
  go_wp2_with fail
  refine HB.out.mono ?_
  rintro x w1 ⟨rfl, g1⟩
  have Hg1 := qj g1
  have hi := HI.out w1
  clear g1
  go_wp2_with fail
  go_ret
  exact ⟨rfl, Hg1.out⟩
 ·have HM : Hid ((decide (0 ≤ d) && decide (d < 8)) = false) := by
   show _ = _
   by_cases h : 0 ≤ d
   ·rw [decide_eq_false (fun h2 => hd ⟨h, h2⟩), Bool.and_false]
   ·rw [decide_eq_false h]; rfl
  have HE : Hid (inB l e d = false) := in_out hd
  clear hd
  go_enter Tryz.func60, Tryz.ntmps60
  go_upto_region 1 with fail
  go_wp2_with fail
  refine (pmay_any _ w).mono ?_
  rintro x _ ⟨rfl, rfl⟩
  rw [HM.out]
  go_wp2_with fail
  go_ret
  exact ⟨by rw [HE.out]; rfl, gb_refl _ _⟩
theorem pMembers_any (A : Option Addr) (n c : Nat) (l : List Rc) (e : Int) (w : World) (hl : LogL w A n l) (hn : n ≤ 1099511627776) :
  Calls Tryz.prog 38 #[.slice A n c, .int .i64 e] w (IntsIs (memsB l e) w) := by
 have HB := qj (behind_any A n c l e w hl hn)
 have HI : Hid (∀ (j : Nat) (W : World), j < 8 → (Instr.index 98 (.agg (pres l e)) (.int .i64 (j : Int))).run Tryz.prog W = .ok (.bool (inB l e (j : Int))) W) := fun j W hj => pres_idx l e hj W
 obtain ⟨i0, hi0, hz0, hz1, hz2⟩ := int_parts
 have Hi0 := qj hi0
 have Hz0 := qj hz0
 have Hz1 := qj hz1
 have Hz2 := qj hz2
 clear hl hn hi0 hz0 hz1 hz2
 generalize pres l e = P at *
 go_enter Tryz.func38, Tryz.ntmps38
 go_wp2_with fail
 refine HB.out.mono ?_
 rintro x w1 ⟨rfl, g1⟩
 have Hg1 := qj g1
 clear g1 HB
 go_wp2_with fail
 go_loopw [5, 11] (fun lv iv wr => ∃ (k N : Nat), k ≤ 8 ∧ iv = .int .i64 k ∧ Hid ((memsU l e k).length = N) ∧ wr.ownsRow w.heap.size 3 1 lv N (ivs (memsU l e k)) ∧ Gn w wr) (fun _ iv _ => 8 - (intOf iv).toNat)
 case atStart => exact ⟨0, 0, by omega, rfl, rfl, World.ownsRow_nil _ _ _ _, Hg1.out⟩
 case round =>
  obtain ⟨k, N, hk, rfl, HN, hown, hg⟩ := hrel
  have HO := qj hown
  have Hg := qj hg
  have Hsz : Hid (w.heap.size ≤ wr.heap.size) := hg.size
  have HN8 : Hid (N ≤ 8) := by have := memsU_len l e k; have := HN.out; show _ ≤ _; omega
  clear hg
  by_cases hlt : k < 8
  ·have d1 : decide ((k : Int) < 8) = true := dcT
   have d1n : decide (k < 8) = true := dcT
   have hi := HI.out k wr hlt
   obtain ⟨lA, ln, lc, rfl⟩ := own_slice1 hown
   clear hown
   cases hq : inB l e (k : Int) with
   | true =>
    have HQ := qj hq
    rw [hq] at hi
    clear hq
    go_wp2_with (at_builtin; go_must (refine wpList_append_own _ rfl (.tmp 16) (.tmp 18) 63 rfl w.heap.size 3 i0 (.int .i64 0) 1 8 Tryz.underlying63 Hi0.out Hz0.out Hz1.out Hz2.out rfl (by decide) _ N _ rfl (HO.out.kept (gb_alloc (gb_refl wr none) (.cells #[.int .i64 (k : Int)] 3)) (by cases hv : Value.ownBlock _ <;> simp)) ⟨wr.heap.size, 0, none⟩ 1 1 (ivs [(k : Int)]) rfl rfl (one_new _ _ _) (ivs_one _) (by have := HN8.out; simp only [maxLen]; omega) (by have := HN8.out; omega) (by have := Hsz.out; simp; omega) ?_); intro v2 w2 own2 grow2 _)
    have g2 : Gn w w2 := gb_step (gb_alloc Hg.out _) grow2 (fun i e => .inr (own_far1 HO.out i e))
    have HO2 : Hid (w2.ownsRow w.heap.size 3 1 v2 (N + 1) (ivs (memsU l e (k + 1)))) := by
     have h := own2
     show World.ownsRow _ _ _ _ _ _ _
     rw [memsU_yes HQ.out]
     have e1 : ivs (memsU l e k ++ [(k : Int)]) = ivs (memsU l e k) ++ ivs [(k : Int)] := by simp [ivs]
     rw [e1]
     exact h
    have HN2 : Hid ((memsU l e (k + 1)).length = N + 1) := by show _ = _; rw [memsU_yes HQ.out, List.length_append, HN.out]; rfl
    have Hg2 := qj g2
    clear own2 grow2 g2
    go_roundw
    case rel => exact ⟨k + 1, N + 1, by omega, by go_num, HN2, HO2.out, Hg2.out⟩
    case measure => simp [intOf]; omega
   | false =>
    have HQ := qj hq
    rw [hq] at hi
    clear hq
    go_wp2_with fail
    go_roundw
    case rel => exact ⟨k + 1, N, by omega, by go_num, by rw [memsU_no HQ.out]; exact HN, by rw [memsU_no HQ.out]; exact HO.out, Hg.out⟩
    case measure => simp [intOf]; omega
  ·have d1 : decide ((k : Int) < 8) = false := dcF
   have d1n : decide (k < 8) = false := dcF
   obtain rfl : k = 8 := by omega
   obtain ⟨A3, c3, rfl, hil⟩ := own_il HO.out HN.out
   have Hil := qj hil
   clear hil
   go_wp2_with fail
   go_ret
   have e1 : (memsB l e).length = N := HN.out
   exact ⟨A3, c3, by rw [e1]; rfl, by rw [e1]; exact Hil.out, Hg.out⟩
end Go.Proofs.YtpcjbjpofcdjeaaGreatDoor.Ro
