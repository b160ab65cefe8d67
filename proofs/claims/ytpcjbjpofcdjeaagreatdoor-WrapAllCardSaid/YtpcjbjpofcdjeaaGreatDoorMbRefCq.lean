/- The document's In, Check. Written by gen_mbrefc.py. -/
import Derived.Test.YtpcjbjpofcdjeaaGreatDoorTwq
import Derived.Test.YtpcjbjpofcdjeaaGreatDoorMbRefPq
set_option linter.unusedVariables false
set_option maxHeartbeats 40000000
set_option maxRecDepth 100000
namespace Go.Proofs.YtpcjbjpofcdjeaaGreatDoor.Mb
open Go Go.RowKit Mm Td Vw Dt
attribute [local go_sem] Td.upon_value Td.upon_skip Td.upon_enter Td.upon_row Td.look_tmp Td.look_const Td.look_func Td.look_global
theorem take_rec {l : List Rc} {k : Nat} {r : Rc} (h : l[k]? = some r) : l.take (k + 1) = l.take k ++ [r] := by rw [List.take_add_one, h]; rfl
theorem inL_next {l : List Rc} {k : Nat} {r : Rc} (h : l[k]? = some r) (e d : Int) : inL (l.take (k + 1)) e d = goesIn e d (inL (l.take k) e d) r := by rw [take_rec h, inL_snoc]
theorem goes_out {e d : Int} {b : Bool} {r : Rc} (h : ¬ (r.seq ≤ e ∧ r.dev = d ∧ (r.kind = 1 ∨ r.kind = 2))) : goesIn e d b r = b := if_neg h
theorem goes_in {e d : Int} {b q : Bool} {r : Rc} (h : r.seq ≤ e ∧ r.dev = d ∧ (r.kind = 1 ∨ r.kind = 2)) (hq : decide (r.kind = 1) = q) : goesIn e d b r = q := by unfold goesIn; rw [if_pos h, hq]
theorem log_rec {w : World} {g o n : Nat} {l : List Rc} (h : LogL w (some ⟨g, o, none⟩) n l) {i : Nat} {r : Rc} (hr : l[i]? = some r) : g < w.heap.size ∧ RcAt w g (o + i * 6) r := by
 obtain ⟨g', o', e, hg, hc⟩ := log_at h hr
 cases e
 exact ⟨hg, hc⟩
theorem refIn_any (A : Option Addr) (n c : Nat) (l : List Rc) (e d : Int) (w : World) (hl : LogL w A n l) (hn : n ≤ 1099511627776) :
  Calls Tryz.prog 29 #[.slice A n c, .int .i64 e, .int .i64 d] w fun x w' => x = .returned (.bool (inB l e d)) ∧ w = w' := by
 have Hl := qj hl
 have Hn := qj hn
 clear hl hn
 go_enter Tryz.func29, Tryz.ntmps29
 go_wp2_with fail
 go_loopw [7, 8] (fun bv iv wr => ∃ k : Nat, k ≤ n ∧ iv = .int .i64 k ∧ bv = .bool (inL (l.take k) e d) ∧ wr = w) (fun _ iv _ => n - (intOf iv).toNat)
 case atStart => exact ⟨0, Nat.zero_le _, rfl, rfl, rfl⟩
 case round =>
  obtain ⟨k, hk, rfl, rfl, rfl⟩ := hrel
  obtain ⟨q0, hq0⟩ := nmd (inL (l.take k) e d)
  have Hq : Hid (q0 = inL (l.take k) e d) := hq0.symm
  rw [hq0]
  clear hq0
  by_cases hlt : k < n
  ·have d1 : decide (k < n) = true := decide_eq_true hlt
   have d2 : decide ((k : Int) < (n : Int)) = true := dcT
   have bk : (k : Int) < (n : Int) := by omega
   have t1 : IntKind.i64.wrap ((k : Int) + 1) = ((k + 1 : Nat) : Int) := by rw [IntKind.wrap_i64]; have := Hn.out; omega
   obtain ⟨g, o, rfl, hgl, _⟩ := Hl.out.2 (by omega)
   obtain ⟨r, hx⟩ : ∃ r, l[k]? = some r := ⟨_, List.getElem?_eq_getElem (by rw [Hl.out.1]; exact hlt)⟩
   have hat := (log_rec Hl.out hx).2
   obtain ⟨RA, rc, z0, z1, z2, z3, z4, z5, _, _⟩ := hat
   have Hx := qj hx
   have Hlt := qj hlt
   clear hx hlt hk hgl
   by_cases h1 : r.seq ≤ e
   ·have q1 : decide (r.seq ≤ e) = true := decide_eq_true h1
    by_cases h2 : r.dev = d
    ·have h2e : (r.dev == d) = true := eq_yes h2
     by_cases h3 : r.kind = 1
     ·have h3e : (r.kind == 1) = true := eq_yes h3
      have HN : Hid (true = inL (l.take (k + 1)) e d) := by show _ = _; rw [inL_next Hx.out]; exact (goes_in ⟨h1, h2, .inl h3⟩ (decide_eq_true h3)).symm
      clear h1 h2 h3
      go_wp2_with fail
      go_roundw
      case rel => exact ⟨k + 1, by have := Hlt.out; omega, rfl, by rw [HN.out], (by first | exact trivial | rfl)⟩
      case measure => simp [intOf]; have := Hlt.out; omega
     ·have h3e : (r.kind == 1) = false := eq_no h3
      by_cases h4 : r.kind = 2
      ·have h4e : (r.kind == 2) = true := eq_yes h4
       have HN : Hid (false = inL (l.take (k + 1)) e d) := by show _ = _; rw [inL_next Hx.out]; exact (goes_in ⟨h1, h2, .inr h4⟩ (decide_eq_false h3)).symm
       clear h1 h2 h3 h4
       go_wp2_with fail
       go_roundw
       case rel => exact ⟨k + 1, by have := Hlt.out; omega, rfl, by rw [HN.out], (by first | exact trivial | rfl)⟩
       case measure => simp [intOf]; have := Hlt.out; omega
      ·have h4e : (r.kind == 2) = false := eq_no h4
       have HN : Hid (q0 = inL (l.take (k + 1)) e d) := by show _ = _; rw [inL_next Hx.out]; exact ((goes_out (fun h => h.2.2.elim h3 h4)).trans Hq.out.symm).symm
       clear h1 h2 h3 h4
       go_wp2_with fail
       go_roundw
       case rel => exact ⟨k + 1, by have := Hlt.out; omega, rfl, by rw [HN.out], (by first | exact trivial | rfl)⟩
       case measure => simp [intOf]; have := Hlt.out; omega
    ·have h2e : (r.dev == d) = false := eq_no h2
     have HN : Hid (q0 = inL (l.take (k + 1)) e d) := by show _ = _; rw [inL_next Hx.out]; exact ((goes_out (fun h => h2 h.2.1)).trans Hq.out.symm).symm
     clear h1 h2
     go_wp2_with fail
     go_roundw
     case rel => exact ⟨k + 1, by have := Hlt.out; omega, rfl, by rw [HN.out], (by first | exact trivial | rfl)⟩
     case measure => simp [intOf]; have := Hlt.out; omega
   ·have q1 : decide (r.seq ≤ e) = false := decide_eq_false h1
    have HN : Hid (q0 = inL (l.take (k + 1)) e d) := by show _ = _; rw [inL_next Hx.out]; exact ((goes_out (fun h => h1 h.1)).trans Hq.out.symm).symm
    clear h1
    go_wp2_with fail
    go_roundw
    case rel => exact ⟨k + 1, by have := Hlt.out; omega, rfl, by rw [HN.out], (by first | exact trivial | rfl)⟩
    case measure => simp [intOf]; have := Hlt.out; omega
  ·have hkn : k = n := by omega
   subst hkn
   have d1 : decide (k < k) = false := by simp
   have d2 : decide ((k : Int) < (k : Int)) = false := by simp
   have Hf : Hid (q0 = inL l e d) := by
    have h := Hq.out
    rwa [List.take_of_length_le (by rw [Hl.out.1]; exact Nat.le_refl _)] at h
   clear hlt hk
   by_cases h1 : 0 ≤ d
   ·have q1 : decide (0 ≤ d) = true := decide_eq_true h1
    by_cases h2 : d < 8
    ·have q2 : decide (d < 8) = true := decide_eq_true h2
     have HE : Hid (inB l e d = q0) := by show _ = _; unfold inB; rw [← Hf.out, q1, q2]; cases q0 <;> rfl
     clear h1 h2
     cases q0
     ·go_wp2_with fail
      go_ret
      exact ⟨by simp [HE.out], rfl⟩
     ·go_wp2_with fail
      go_ret
      exact ⟨by simp [HE.out], rfl⟩
    ·have q2 : decide (d < 8) = false := decide_eq_false h2
     have HE : Hid (inB l e d = false) := by show _ = _; unfold inB; rw [q1, q2]; cases inL l e d <;> rfl
     clear h1 h2
     cases q0
     ·go_wp2_with fail
      go_ret
      exact ⟨by simp [HE.out], rfl⟩
     ·go_wp2_with fail
      go_ret
      exact ⟨by simp [HE.out], rfl⟩
   ·have q1 : decide (0 ≤ d) = false := decide_eq_false h1
    have HE : Hid (inB l e d = false) := by show _ = _; unfold inB; rw [q1]; cases inL l e d <;> rfl
    clear h1
    cases q0
    ·go_wp2_with fail
     go_ret
     exact ⟨by simp [HE.out], rfl⟩
    ·go_wp2_with fail
     go_ret
     exact ⟨by simp [HE.out], rfl⟩
theorem cut_log (g o n c k : Nat) (W : World) (hk : k ≤ c) : (Instr.slice 22 (.slice (some ⟨g, o, none⟩) n c) none (some (.int .i64 (k : Int))) none).run Tryz.prog W = .ok (.slice (some ⟨g, o, none⟩) k c) W := by
 have h1 : (0 : Int) ≤ (k : Int) := by omega
 have h2 : (k : Int) ≤ (c : Int) := by omega
 simp [Instr.slice, run_underlying Tryz.underlying22, Instr.sliceBounds, run_sliceBound, h1, h2]
 exact fun _ => rfl
def StepA (l : List Rc) (r : Rc) : Prop := MayR r ∧ r.seq = l.length + 1 ∧ r.prev = lastH l ∧ (l.length = 0 → r.kind = 1 ∧ r.dev = 0)
def StepB (l : List Rc) (r : Rc) : Prop := (r.kind = 1 → inB l l.length r.dev = false) ∧ (r.kind = 2 → inB l l.length r.dev = true ∧ r.dev ≠ 0)
theorem step_ab {l : List Rc} {r : Rc} (h : StepA l r) (k : StepB l r) : StepR l r := ⟨h.1, h.2.1, h.2.2.1, fun e => h.2.2.2 (by rw [e]; rfl), k.1, k.2⟩
theorem step_a {l : List Rc} {r : Rc} (h : StepR l r) : StepA l r := ⟨h.1, h.2.1, h.2.2.1, fun e => h.2.2.2.1 (List.length_eq_zero_iff.1 e)⟩
theorem step_b {l : List Rc} {r : Rc} (h : StepR l r) : StepB l r := ⟨h.2.2.2.2.1, h.2.2.2.2.2⟩
theorem refCheck_any (A : Option Addr) (n c : Nat) (l : List Rc) (w : World) (hl : LogL w A n l) (hc : n ≤ c) (hb : ∀ r ∈ l, r.wraps.length ≤ 1099511627776) :
  Calls Tryz.prog 31 #[.slice A n c] w (BoolIs (ChainR l) w) := by
 have Hl := qj hl
 have Hc := qj hc
 have Hb := qj hb
 by_cases hn : n ≤ 40
 ·have d1 : decide (40 < n) = false := dcF
  have d2 : decide ((40 : Int) < (n : Int)) = false := dcF
  have Hn := qj hn
  clear hl hc hb hn
  go_enter Tryz.func31, Tryz.ntmps31
  go_wp2_with fail
  clear d1 d2
  go_loopw [3, 4] (fun pv iv wr => ∃ k : Nat, k ≤ n ∧ iv = .int .i64 k ∧ pv = .string (lastH (l.take k)) ∧ Hid (GoodR (l.take k)) ∧ Gn w wr) (fun _ iv _ => n - (intOf iv).toNat)
  case atStart => exact ⟨0, Nat.zero_le _, rfl, rfl, good_nil, gb_refl _ _⟩
  case round =>
   obtain ⟨k, hk, rfl, rfl, HGd, hg⟩ := hrel
   by_cases hlt : k < n
   ·have d1 : decide (k < n) = true := decide_eq_true hlt
    have d2 : decide ((k : Int) < (n : Int)) = true := dcT
    have bk : (k : Int) < (n : Int) := by omega
    have Ht1 : Hid (IntKind.i64.wrap ((k : Int) + 1) = (k : Int) + 1) := by show _ = _; rw [IntKind.wrap_i64]; have := Hn.out; omega
    have hLL := Hl.out.keep hg
    obtain ⟨g, o, rfl, hgl, _⟩ := hLL.2 (by omega)
    obtain ⟨r, hx⟩ : ∃ r, l[k]? = some r := ⟨_, List.getElem?_eq_getElem (by rw [Hl.out.1]; exact hlt)⟩
    have hat := (log_rec hLL hx).2
    obtain ⟨RA, rc, y0, y1, y2, y3, y4, y5, hwl, _⟩ := hat
    have hbr : r.wraps.length ≤ 1099511627776 := Hb.out r (List.mem_of_getElem? hx)
    have HLen : Hid ((l.take k).length = k) := by show _ = _; rw [List.length_take, Hl.out.1]; omega
    have HCut : Hid (∀ W, (Instr.slice 22 (.slice (some ⟨g, o, none⟩) n c) none (some (.int .i64 (k : Int))) none).run Tryz.prog W = .ok (.slice (some ⟨g, o, none⟩) k c) W) := fun W => cut_log g o n c k W (by have := Hc.out; omega)
    have HTn : Hid (k ≤ 1099511627776) := by have := Hn.out; show _ ≤ _; omega
    have hT0 := log_take hLL (Nat.le_of_lt hlt)
    have Hx := qj hx
    have Hlt := qj hlt
    go_upto_region 8 with fail
    obtain ⟨b5, hb5⟩ := nmd (wr.heap.size)
    obtain ⟨W5, hW5⟩ := nmd (wr.alloc (.cells (recCs r RA rc) 25))
    have hr5 : Row W5 b5 25 (recCs r RA rc) := by rw [← hW5, ← hb5]; exact Row.new _ _ _
    have g5 : Gn wr W5 := by rw [← hW5]; exact gb_alloc (gb_refl _ _) _
    have HB5 : Hid (∀ W, Gn W5 W → RecC0 W b5 r RA rc) := fun W hW => rec_row (hr5.kept hW (by simp))
    have HMy : Hid (∀ W, Gn W5 W → Calls Tryz.prog 54 #[.agg (recCs r RA rc)] W (BoolIs (MayR r) W)) := fun W hW => refMay_any r RA rc W (hwl.keep (gb_none g5 hW)) hbr
    have HHs : Hid (∀ W, Gn W5 W → Calls Tryz.prog 33 #[.agg (recCs r RA rc)] W fun e w' => e = .returned (.string (hashB r)) ∧ Gn W w') := fun W hW => refHash_any r RA rc W (hwl.keep (gb_none g5 hW)) hbr
    have HT : Hid (∀ W, Gn W5 W → LogL W (some ⟨g, o, none⟩) k (l.take k)) := fun W hW => hT0.keep (gb_none g5 hW)
    have Hg5 : Hid (Gn w W5) := gb_none hg g5
    rw [hb5, hW5]
    clear hW5 hb5 hr5 g5 hwl hbr hT0 hLL hx hlt hk hg hgl y0 y1 y2 y3 y4 y5 d1 d2 bk
    obtain ⟨z0, z1, z2, z3, z4, z5⟩ := HB5.out W5 (gb_refl _ _)
    have t1 := Ht1.out
    by_cases hs : StepA (l.take k) r
    ·have HSa := qj hs
     have HMk : Hid (r.kind = 1 ∨ r.kind = 2) := hs.1.1.2.2.2.1
     go_cut [49] (fun c wx => c = .bool false ∧ Gn W5 wx)
     case first =>
      have h2 : r.seq = (k : Int) + 1 := by have := hs.2.1; rw [HLen.out] at this; exact this
      have h3 : r.prev = lastH (l.take k) := hs.2.2.1
      have h2e : (r.seq == (k : Int) + 1) = true := eq_yes h2
      have h2n : (r.seq != (k : Int) + 1) = false := by rw [bne, h2e]; rfl
      have h3e : (r.prev.toList == (lastH (l.take k)).toList) = true := str_eq h3
      have h3n : (r.prev.toList != (lastH (l.take k)).toList) = false := by rw [bne, h3e]; rfl
      by_cases h4 : k = 0
      ·have h4e : ((k : Int) == 0) = true := eq_yes (by omega)
       have h4d : (k == 0) = true := by simpa using h4
       have h5e : ((r.kind : Int) == 1) = true := eq_yes (hs.2.2.2 (HLen.out.trans h4)).1
       have h5n : ((r.kind : Int) != 1) = false := by rw [bne, h5e]; rfl
       have h6e : ((r.dev : Int) == 0) = true := eq_yes (hs.2.2.2 (HLen.out.trans h4)).2
       have h6n : ((r.dev : Int) != 0) = false := by rw [bne, h6e]; rfl
       clear hs h2 h3 h4
       go_wp2_with fail
       refine (HMy.out W5 (gb_refl _ _)).mono ?_
       intro e w6 hh
       obtain ⟨he, g6⟩ := hh.yes HSa.out.1
       subst he
       have Hg6 := qj g6
       clear hh z0 z1 z2 z3 z4 z5
       obtain ⟨z0, z1, z2, z3, z4, z5⟩ := HB5.out w6 g6
       clear g6
       go_wp2_with fail
       go_meet
       exact ⟨rfl, Hg6.out⟩
      ·have h4e : ((k : Int) == 0) = false := eq_no (by omega)
       have h4d : (k == 0) = false := by simpa using h4
       clear hs h2 h3 h4
       go_wp2_with fail
       refine (HMy.out W5 (gb_refl _ _)).mono ?_
       intro e w6 hh
       obtain ⟨he, g6⟩ := hh.yes HSa.out.1
       subst he
       have Hg6 := qj g6
       clear hh z0 z1 z2 z3 z4 z5
       obtain ⟨z0, z1, z2, z3, z4, z5⟩ := HB5.out w6 g6
       clear g6
       go_wp2_with fail
       go_meet
       exact ⟨rfl, Hg6.out⟩
     case rest =>
      obtain ⟨rfl, hgc⟩ := hcut
      have Hg8 := qj hgc
      clear hgc z0 z1 z2 z3 z4 z5 t1 hs
      go_upto_region 10 with fail
      refine tw_go ?_
      refine tw_h 0 ?_
      refine tw_h 4 ?_
      apply tw_xee 1 50 0 51
      ·intro W f hW ⟨e50, e51⟩ K hK; have hcut := HCut.out W; go_simp; exact kK hK
      refine tw_h 4 ?_
      refine tw_h 5 ?_
      apply tw_xe 0 54
      ·intro W f hW e54 K hK; have z3 := (HB5.out W (gb_none Hg8.out hW)).2.2.2.1; go_simp; exact kK hK
      apply tw_is
      ·intro W f hW hE h0 K hK; have e52 := hE.of 3 52; have e53 := hE.of 2 53; have e55 := hE.of 0 55; clear hE h0; refine yes_f ?_; go_simp; refine (refIn_any _ k c (l.take k) (k : Int) r.dev W (HT.out W (gb_none Hg8.out hW)) HTn.out).mono ?_; rintro e w1' ⟨rfl, rfl⟩; exact ⟨_, rfl, hK _ _ (gb_refl _ _) rfl⟩
      refine tw_e 0 56 ?_
      refine tw_nil fun W f hW hA => ?_
      have e6 : f 6 = _ := hA 0 (some 6) _ rfl
      rw [e6]
      clear hA
      have Hg10 := qj (gb_none Hg8.out hW)
      clear hW
      generalize W = w10 at *
      obtain ⟨z0, z1, z2, z3, z4, z5⟩ := HB5.out w10 Hg10.out
      obtain ⟨q6, hq6⟩ := nmd (inB (l.take k) (k : Int) r.dev)
      rw [hq6]
      have Hq6 := qj hq6
      clear hq6
      by_cases h1 : r.kind = 1
      ·have h1e : ((r.kind : Int) == 1) = true := eq_yes h1
       have h1n : ((r.kind : Int) != 1) = false := by rw [bne, h1e]; rfl
       have h8e : ((r.kind : Int) == 2) = false := eq_no (fun h8 => absurd (h1.symm.trans h8) (by decide))
       have h8n : ((r.kind : Int) != 2) = true := by rw [bne, h8e]; rfl
       cases hq : q6 with
       | true =>
        subst hq
        have HF : Hid (¬ StepB (l.take k) r) := fun h => by have h9 := h.1 h1; rw [HLen.out, Hq6.out] at h9; cases h9
        clear h1
        go_wp2_with fail
        go_ret
        exact .of_no (fun h => HF.out (step_b (h.2 _ r Hx.out))) (gb_none Hg5.out Hg10.out)
       | false =>
        subst hq
        have HS : Hid (StepB (l.take k) r) := ⟨fun _ => by rw [HLen.out, Hq6.out], fun h2 => absurd (h1.symm.trans h2) (by decide)⟩
        clear h1
        go_wp2_with fail
        refine (HHs.out w10 Hg10.out).mono ?_
        rintro e w11 ⟨rfl, g11⟩
        have Hg11 := qj (gb_none Hg10.out g11)
        clear g11 z0 z1 z2 z3 z4 z5
        have HN : Hid (GoodR (l.take (k + 1))) := good_upto Hx.out HGd.out (step_ab HSa.out HS.out)
        have HNl : Hid (lastH (l.take (k + 1)) = hashB r) := by show _ = _; rw [take_rec Hx.out, lastH_snoc]
        have t1 := Ht1.out
        go_wp2_with fail
        go_roundw
        case rel => exact ⟨k + 1, by have := Hlt.out; omega, rfl, by rw [HNl.out], HN, gb_none Hg5.out Hg11.out⟩
        case measure => simp [intOf]; have := Hlt.out; omega
      ·have h1e : ((r.kind : Int) == 1) = false := eq_no h1
       have h1n : ((r.kind : Int) != 1) = true := by rw [bne, h1e]; rfl
       have h2 : r.kind = 2 := (HMk.out).resolve_left h1
       have h2e : ((r.kind : Int) == 2) = true := eq_yes h2
       have h2n : ((r.kind : Int) != 2) = false := by rw [bne, h2e]; rfl
       cases hq : q6 with
       | false =>
        subst hq
        have HF : Hid (¬ StepB (l.take k) r) := fun h => by have h9 := (h.2 h2).1; rw [HLen.out, Hq6.out] at h9; cases h9
        clear h1 h2
        go_wp2_with fail
        go_ret
        exact .of_no (fun h => HF.out (step_b (h.2 _ r Hx.out))) (gb_none Hg5.out Hg10.out)
       | true =>
        subst hq
        by_cases h3 : r.dev = 0
        ·have h3e : ((r.dev : Int) == 0) = true := eq_yes h3
         have h3n : ((r.dev : Int) != 0) = false := by rw [bne, h3e]; rfl
         have HF : Hid (¬ StepB (l.take k) r) := fun h => (h.2 h2).2 h3
         clear h1 h2 h3
         go_wp2_with fail
         go_ret
         exact .of_no (fun h => HF.out (step_b (h.2 _ r Hx.out))) (gb_none Hg5.out Hg10.out)
        ·have h3e : ((r.dev : Int) == 0) = false := eq_no h3
         have h3n : ((r.dev : Int) != 0) = true := by rw [bne, h3e]; rfl
         have HS : Hid (StepB (l.take k) r) := ⟨fun h => absurd h h1, fun _ => ⟨by rw [HLen.out, Hq6.out], h3⟩⟩
         clear h1 h2 h3
         go_wp2_with fail
         refine (HHs.out w10 Hg10.out).mono ?_
         rintro e w11 ⟨rfl, g11⟩
         have Hg11 := qj (gb_none Hg10.out g11)
         clear g11 z0 z1 z2 z3 z4 z5
         have HN : Hid (GoodR (l.take (k + 1))) := good_upto Hx.out HGd.out (step_ab HSa.out HS.out)
         have HNl : Hid (lastH (l.take (k + 1)) = hashB r) := by show _ = _; rw [take_rec Hx.out, lastH_snoc]
         have t1 := Ht1.out
         go_wp2_with fail
         go_roundw
         case rel => exact ⟨k + 1, by have := Hlt.out; omega, rfl, by rw [HNl.out], HN, gb_none Hg5.out Hg11.out⟩
         case measure => simp [intOf]; have := Hlt.out; omega
    ·by_cases h1 : MayR r
     ·by_cases h2 : r.seq = (k : Int) + 1
      ·have h2e : (r.seq == (k : Int) + 1) = true := eq_yes h2
       have h2n : (r.seq != (k : Int) + 1) = false := by rw [bne, h2e]; rfl
       by_cases h3 : r.prev = lastH (l.take k)
       ·have h3e : (r.prev.toList == (lastH (l.take k)).toList) = true := str_eq h3
        have h3n : (r.prev.toList != (lastH (l.take k)).toList) = false := by rw [bne, h3e]; rfl
        by_cases h4 : k = 0
        ·have h4e : ((k : Int) == 0) = true := eq_yes (by omega)
         have h4d : (k == 0) = true := by simpa using h4
         by_cases h5 : r.kind = 1
         ·have h5e : ((r.kind : Int) == 1) = true := eq_yes h5
          have h5n : ((r.kind : Int) != 1) = false := by rw [bne, h5e]; rfl
          by_cases h6 : r.dev = 0
          ·have h6e : ((r.dev : Int) == 0) = true := eq_yes h6
           have h6n : ((r.dev : Int) != 0) = false := by rw [bne, h6e]; rfl
           exact absurd ⟨h1, by rw [HLen.out]; exact h2, h3, fun _ => ⟨h5, h6⟩⟩ hs
          ·have h6e : ((r.dev : Int) == 0) = false := eq_no h6
           have h6n : ((r.dev : Int) != 0) = true := by rw [bne, h6e]; rfl
           have HF := qj hs
           have H1 := qj h1
           clear hs h1 h2 h3 h4 h5 h6
           go_wp2_with fail
           refine (HMy.out W5 (gb_refl _ _)).mono ?_
           intro e w6 hh
           obtain ⟨he, g6⟩ := hh.yes H1.out
           subst he
           have Hg6 := qj g6
           clear hh z0 z1 z2 z3 z4 z5
           obtain ⟨z0, z1, z2, z3, z4, z5⟩ := HB5.out w6 g6
           clear g6
           go_wp2_with fail
           go_ret
           exact .of_no (fun h => HF.out (step_a (h.2 _ r Hx.out))) (gb_none Hg5.out Hg6.out)
         ·have h5e : ((r.kind : Int) == 1) = false := eq_no h5
          have h5n : ((r.kind : Int) != 1) = true := by rw [bne, h5e]; rfl
          have HF := qj hs
          have H1 := qj h1
          clear hs h1 h2 h3 h4 h5
          go_wp2_with fail
          refine (HMy.out W5 (gb_refl _ _)).mono ?_
          intro e w6 hh
          obtain ⟨he, g6⟩ := hh.yes H1.out
          subst he
          have Hg6 := qj g6
          clear hh z0 z1 z2 z3 z4 z5
          obtain ⟨z0, z1, z2, z3, z4, z5⟩ := HB5.out w6 g6
          clear g6
          go_wp2_with fail
          go_ret
          exact .of_no (fun h => HF.out (step_a (h.2 _ r Hx.out))) (gb_none Hg5.out Hg6.out)
        ·exact absurd ⟨h1, by rw [HLen.out]; exact h2, h3, fun e => absurd (HLen.out ▸ e) h4⟩ hs
       ·have h3e : (r.prev.toList == (lastH (l.take k)).toList) = false := str_ne h3
        have h3n : (r.prev.toList != (lastH (l.take k)).toList) = true := by rw [bne, h3e]; rfl
        have HF := qj hs
        have H1 := qj h1
        clear hs h1 h2 h3
        go_wp2_with fail
        refine (HMy.out W5 (gb_refl _ _)).mono ?_
        intro e w6 hh
        obtain ⟨he, g6⟩ := hh.yes H1.out
        subst he
        have Hg6 := qj g6
        clear hh z0 z1 z2 z3 z4 z5
        obtain ⟨z0, z1, z2, z3, z4, z5⟩ := HB5.out w6 g6
        clear g6
        go_wp2_with fail
        go_ret
        exact .of_no (fun h => HF.out (step_a (h.2 _ r Hx.out))) (gb_none Hg5.out Hg6.out)
      ·have h2e : (r.seq == (k : Int) + 1) = false := eq_no h2
       have h2n : (r.seq != (k : Int) + 1) = true := by rw [bne, h2e]; rfl
       have HF := qj hs
       have H1 := qj h1
       clear hs h1 h2
       go_wp2_with fail
       refine (HMy.out W5 (gb_refl _ _)).mono ?_
       intro e w6 hh
       obtain ⟨he, g6⟩ := hh.yes H1.out
       subst he
       have Hg6 := qj g6
       clear hh z0 z1 z2 z3 z4 z5
       obtain ⟨z0, z1, z2, z3, z4, z5⟩ := HB5.out w6 g6
       clear g6
       go_wp2_with fail
       go_ret
       exact .of_no (fun h => HF.out (step_a (h.2 _ r Hx.out))) (gb_none Hg5.out Hg6.out)
     ·have HF := qj hs
      have H1 := qj h1
      clear hs h1
      go_wp2_with fail
      refine (HMy.out W5 (gb_refl _ _)).mono ?_
      intro e w6 hh
      obtain ⟨he, g6⟩ := hh.no H1.out
      subst he
      have Hg6 := qj g6
      clear hh z0 z1 z2 z3 z4 z5
      obtain ⟨z0, z1, z2, z3, z4, z5⟩ := HB5.out w6 g6
      clear g6
      go_wp2_with fail
      go_ret
      exact .of_no (fun h => HF.out (step_a (h.2 _ r Hx.out))) (gb_none Hg5.out Hg6.out)
   ·have hkn : k = n := by omega
    subst hkn
    have d1 : decide (k < k) = false := by simp
    have d2 : decide ((k : Int) < (k : Int)) = false := by simp
    have He : Hid (ChainR l) := ⟨by rw [Hl.out.1]; exact Hn.out, by
     have h := HGd.out
     rwa [List.take_of_length_le (by rw [Hl.out.1]; exact Nat.le_refl _)] at h⟩
    go_wp2_with fail
    go_ret
    exact .of_yes He.out hg
 ·have d1 : decide (40 < n) = true := dcT
  have d2 : decide ((40 : Int) < (n : Int)) = true := dcT
  have HF : Hid (¬ ChainR l) := fun h => hn (by have := h.1; rw [Hl.out.1] at this; exact this)
  clear hl hc hb hn
  go_enter Tryz.func31, Tryz.ntmps31
  go_wp2_with fail
  go_ret
  exact .of_no HF.out (gb_refl _ _)
end Go.Proofs.YtpcjbjpofcdjeaaGreatDoor.Mb
