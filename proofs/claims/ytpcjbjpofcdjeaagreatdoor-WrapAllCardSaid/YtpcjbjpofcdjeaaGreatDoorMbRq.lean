/- Records told by bytes, as the program reads them. Written by gen_mbget.py. The document's MayRecord, PutRecord, Hash. Written by gen_mbref.py. -/
import Derived.Test.YtpcjbjpofcdjeaaGreatDoorTwq
import Derived.Test.YtpcjbjpofcdjeaaGreatDoorMbMayq
import Derived.Test.YtpcjbjpofcdjeaaGreatDoorTdMq
set_option linter.unusedVariables false
set_option maxHeartbeats 40000000
set_option maxRecDepth 100000
section
namespace Go.Proofs.YtpcjbjpofcdjeaaGreatDoor.Mb
open Go Go.RowKit Mm Td Vw Dt
attribute [local go_sem] Td.upon_value Td.upon_skip Td.upon_enter Td.upon_row Td.look_tmp Td.look_const Td.look_func Td.look_global
theorem own_keep {w w' : World} {B : Nat} {e : TypeId} {s : Nat} {v : Value} {n : Nat} {xs : List Value} (h : w.ownsRow B e s v n xs) (g : Gn w w') : w'.ownsRow B e s v n xs := World.ownsRow.kept h g (by cases hv : Value.ownBlock _ with | none => exact .inl rfl | some q => exact .inr (by simp))
theorem wrap_inf : (Tryz.prog.info? 70).map (fun i => (i.zero, i.size, i.bytes)) = some (some (.agg #[.int .i64 0, .string ⟨#[]⟩]), 2, 24) := by kernel_rfl
theorem wrap_parts : ∃ i, Tryz.prog.info? 70 = some i ∧ i.zero = some (.agg #[.int .i64 0, .string ⟨#[]⟩]) ∧ i.size = 2 ∧ i.bytes = 24 := by
 obtain ⟨i, hi, h⟩ := Option.map_eq_some_iff.1 wrap_inf
 simp only [Prod.mk.injEq] at h
 exact ⟨i, hi, h.1, h.2.1, h.2.2⟩
def WLb (w : World) (B : Nat) (A : Option Addr) (n : Nat) (l : List Wp) : Prop := l.length = n ∧ (0 < n → ∃ g o, A = some ⟨g, o, none⟩ ∧ B ≤ g ∧ g < w.heap.size ∧ ∀ i x, l[i]? = some x → WAt w g (o + i * 2) x)
theorem WLb.wl {w : World} {B : Nat} {A : Option Addr} {n : Nat} {l : List Wp} (h : WLb w B A n l) : WL w A n l := ⟨h.1, fun hn => by
 obtain ⟨g, o, e, _, hg, hc⟩ := h.2 hn
 exact ⟨g, o, e, hg, hc⟩⟩
theorem WLb.low {w : World} {B B' : Nat} {A : Option Addr} {n : Nat} {l : List Wp} (h : WLb w B A n l) (hB : B' ≤ B) : WLb w B' A n l := ⟨h.1, fun hn => by
 obtain ⟨g, o, e, hb, hg, hc⟩ := h.2 hn
 exact ⟨g, o, e, Nat.le_trans hB hb, hg, hc⟩⟩
theorem WLb.past {w w' : World} {B : Nat} {A : Option Addr} {n : Nat} {l : List Wp} {r : Option Nat} (h : WLb w B A n l) (k : w.grownBy w' r) (hr : ∀ i, r = some i → i < B) : WLb w' B A n l := ⟨h.1, fun hn => by
 obtain ⟨g, o, e, hb, hg, hc⟩ := h.2 hn
 exact ⟨g, o, e, hb, Nat.lt_of_lt_of_le hg k.size, fun i x hx => (hc i x hx).kept hg k (fun e => by have := hr g e.symm; omega)⟩⟩
theorem WLb.keep {w w' : World} {B : Nat} {A : Option Addr} {n : Nat} {l : List Wp} (h : WLb w B A n l) (k : Gn w w') : WLb w' B A n l := h.past k (fun i e => by cases e)
end Go.Proofs.YtpcjbjpofcdjeaaGreatDoor.Mb
end
section
namespace Go.Proofs.YtpcjbjpofcdjeaaGreatDoor.Mb
open Go Go.RowKit Mm Td Vw Dt
attribute [local go_sem] Td.upon_value Td.upon_skip Td.upon_enter Td.upon_row Td.look_tmp Td.look_const Td.look_func Td.look_global
theorem fk_lt (_ : True) (x y : Int) : (True ∧ decide (x < y) = false ∧ ¬ x < y) ∨ (True ∧ decide (x < y) = true ∧ x < y) := by
 by_cases h : x < y
 ·exact .inr ⟨trivial, decide_eq_true h, h⟩
 ·exact .inl ⟨trivial, decide_eq_false h, h⟩
theorem fk_le (_ : True) (x y : Int) : (True ∧ decide (x ≤ y) = false ∧ ¬ x ≤ y) ∨ (True ∧ decide (x ≤ y) = true ∧ x ≤ y) := by
 by_cases h : x ≤ y
 ·exact .inr ⟨trivial, decide_eq_true h, h⟩
 ·exact .inl ⟨trivial, decide_eq_false h, h⟩
theorem fk_eq (_ : True) (x y : Int) : (True ∧ (x == y) = true ∧ (x != y) = false ∧ x = y) ∨ (True ∧ (x == y) = false ∧ (x != y) = true ∧ x ≠ y) := by
 by_cases h : x = y
 ·exact .inl ⟨trivial, eq_yes h, by rw [bne, eq_yes h]; rfl, h⟩
 ·exact .inr ⟨trivial, eq_no h, by rw [bne, eq_no h]; rfl, h⟩
theorem fk_tx (_ : True) (s : ByteArray) : (True ∧ (s.toList == []) = true ∧ (s.toList != []) = false ∧ s.size = 0) ∨ (True ∧ (s.toList == []) = false ∧ (s.toList != []) = true ∧ s.size ≠ 0) := by
 by_cases h : s.size = 0
 ·exact .inl ⟨trivial, str_none h, by rw [bne, str_none h]; rfl, h⟩
 ·exact .inr ⟨trivial, str_some h, by rw [bne, str_some h]; rfl, h⟩
theorem refMay_no (r : Rc) (A : Option Addr) (c : Nat) (w : World) (hw : WL w A r.wraps.length r.wraps) (hn : r.wraps.length ≤ 1099511627776) (hm : ¬ MayH r) :
  Calls Tryz.prog 54 #[.agg (recCs r A c)] w (BoolIs (MayR r) w) := by
 have HE : Hid (¬ MayR r) := fun h => hm h.1
 obtain ⟨b0, hb0⟩ := nmd (w.heap.size)
 obtain ⟨W0, hW0⟩ := nmd (w.alloc (.cells (recCs r A c) 25))
 obtain ⟨G0, HX⟩ := rec_box hb0 hW0 hw
 have HG := qj G0
 have Hn := qj hn
 obtain ⟨⟨y0, y1, y2, y3, y4, y5⟩, _⟩ := HX.out W0 (gb_refl _ _)
 clear G0 hw hn
 have go : True := trivial
 all_goals try (replace go := fk_lt go r.seq 1; rcases go with ⟨go, q1, h1⟩ | ⟨-, q1, h1⟩)
 all_goals try (replace go := fk_lt go 1048576 r.seq; rcases go with ⟨go, q2, h2⟩ | ⟨-, q2, h2⟩)
 all_goals try (replace go := fk_eq go r.prev.size 32; rcases go with ⟨go, h3e, h3n, h3⟩ | ⟨g2, h3e, h3n, h3⟩)
 all_goals try (replace g2 := fk_eq g2 r.seq 1; rcases g2 with ⟨g2, h3ae, h3an, h3a⟩ | ⟨-, h3ae, h3an, h3a⟩)
 all_goals try (replace g2 := fk_tx g2 r.prev; rcases g2 with ⟨go, h3be, h3bn, h3b⟩ | ⟨-, h3be, h3bn, h3b⟩)
 all_goals try (replace go := fk_eq go r.kind 1; rcases go with ⟨go, h4e, h4n, h4⟩ | ⟨g2, h4e, h4n, h4⟩)
 all_goals try (replace g2 := fk_eq g2 r.kind 2; rcases g2 with ⟨go, h4ae, h4an, h4a⟩ | ⟨-, h4ae, h4an, h4a⟩)
 all_goals try (replace go := fk_lt go r.dev 0; rcases go with ⟨go, q5, h5⟩ | ⟨-, q5, h5⟩)
 all_goals try (replace go := fk_le go 8 r.dev; rcases go with ⟨go, q6, h6⟩ | ⟨-, q6, h6⟩)
 all_goals try (replace go := fk_eq go r.tag.size 16; rcases go with ⟨go, h7e, h7n, h7⟩ | ⟨g2, h7e, h7n, h7⟩)
 all_goals try (replace g2 := fk_tx g2 r.tag; rcases g2 with ⟨go, h7ae, h7an, h7a⟩ | ⟨-, h7ae, h7an, h7a⟩)
 all_goals try exact absurd (show MayH r from by cases go; unfold MayH; omega) hm
 all_goals
  try clear h1
  try clear h2
  try clear h3
  try clear h3a
  try clear h3b
  try clear h4
  try clear h4a
  try clear h5
  try clear h6
  try clear h7
  try clear h7a
  go_enter Tryz.func54, Tryz.ntmps54
  go_upto_region 1 with fail
  clear hW0 hb0
  go_wp2_with fail
  go_ret
  exact .of_no HE.out HG.out
theorem refMay_yes (r : Rc) (A : Option Addr) (c : Nat) (w : World) (hw : WL w A r.wraps.length r.wraps) (hn : r.wraps.length ≤ 1099511627776) (hm : MayH r) :
  Calls Tryz.prog 54 #[.agg (recCs r A c)] w (BoolIs (MayH r ∧ WrapsOk r.wraps) w) := by
 obtain ⟨b0, hb0⟩ := nmd (w.heap.size)
 obtain ⟨W0, hW0⟩ := nmd (w.alloc (.cells (recCs r A c) 25))
 obtain ⟨G0, HX⟩ := rec_box hb0 hW0 hw
 have HG := qj G0
 have Hn := qj hn
 obtain ⟨⟨y0, y1, y2, y3, y4, y5⟩, _⟩ := HX.out W0 (gb_refl _ _)
 clear G0 hw hn
 go_enter Tryz.func54, Tryz.ntmps54
 go_upto_region 1 with fail
 clear hW0 hb0
 go_cut [59] (fun c wx => c = .bool false ∧ wx = W0)
 case first =>
  have go : True := trivial
  all_goals try (replace go := fk_lt go r.seq 1; rcases go with ⟨go, q1, h1⟩ | ⟨-, q1, h1⟩)
  all_goals try (replace go := fk_lt go 1048576 r.seq; rcases go with ⟨go, q2, h2⟩ | ⟨-, q2, h2⟩)
  all_goals try (replace go := fk_eq go r.prev.size 32; rcases go with ⟨go, h3e, h3n, h3⟩ | ⟨g2, h3e, h3n, h3⟩)
  all_goals try (replace g2 := fk_eq g2 r.seq 1; rcases g2 with ⟨g2, h3ae, h3an, h3a⟩ | ⟨-, h3ae, h3an, h3a⟩)
  all_goals try (replace g2 := fk_tx g2 r.prev; rcases g2 with ⟨go, h3be, h3bn, h3b⟩ | ⟨-, h3be, h3bn, h3b⟩)
  all_goals try (replace go := fk_eq go r.kind 1; rcases go with ⟨go, h4e, h4n, h4⟩ | ⟨g2, h4e, h4n, h4⟩)
  all_goals try (replace g2 := fk_eq g2 r.kind 2; rcases g2 with ⟨go, h4ae, h4an, h4a⟩ | ⟨-, h4ae, h4an, h4a⟩)
  all_goals try (replace go := fk_lt go r.dev 0; rcases go with ⟨go, q5, h5⟩ | ⟨-, q5, h5⟩)
  all_goals try (replace go := fk_le go 8 r.dev; rcases go with ⟨go, q6, h6⟩ | ⟨-, q6, h6⟩)
  all_goals try (replace go := fk_eq go r.tag.size 16; rcases go with ⟨go, h7e, h7n, h7⟩ | ⟨g2, h7e, h7n, h7⟩)
  all_goals try (replace g2 := fk_tx g2 r.tag; rcases g2 with ⟨go, h7ae, h7an, h7a⟩ | ⟨-, h7ae, h7an, h7a⟩)
  all_goals first | (cases go) | exact absurd hm (fun h => by unfold MayH at h; omega)
  all_goals
   try clear h1
   try clear h2
   try clear h3
   try clear h3a
   try clear h3b
   try clear h4
   try clear h4a
   try clear h5
   try clear h6
   try clear h7
   try clear h7a
   go_wp2_with fail
   go_meet
   exact ⟨rfl, rfl⟩
 case rest =>
  obtain ⟨rfl, hwc⟩ := hcut
  have hwc2 := hwc.symm
  subst hwc2
  have Hm := qj hm
  clear hm y0 y1 y2 y3 y4 y5
  obtain ⟨n, hnn⟩ := nmd (r.wraps.length)
  have Hnn := qj hnn
  have Hn := qj (show n ≤ 1099511627776 from hnn ▸ Hn.out)
  clear hnn
  go_wp2_with fail
  go_loopw [3] (fun i wr => ∃ k : Nat, k ≤ n ∧ i = .int .i64 k ∧ Hid (WrapsOk (r.wraps.take k)) ∧ Gn W0 wr) (fun i _ => n - (intOf i).toNat)
  case atStart => exact ⟨0, Nat.zero_le _, rfl, wraps_nil, gb_refl _ _⟩
  case round =>
   obtain ⟨k, hk, rfl, HK, hg⟩ := hrel
   obtain ⟨⟨_, _, _, _, y4, _⟩, hWL⟩ := HX.out wr hg
   rw [Hnn.out] at y4 hWL
   by_cases hlt : k < n
   ·have d1 : decide (k < n) = true := decide_eq_true hlt
    have d2 : decide ((k : Int) < (n : Int)) = true := dcT
    have bk : (k : Int) < (n : Int) := by omega
    obtain ⟨g, o, rfl, hgl, _⟩ := hWL.2 (by omega)
    obtain ⟨x, hx⟩ : ∃ x, r.wraps[k]? = some x := ⟨_, List.getElem?_eq_getElem (by rw [hWL.1]; exact hlt)⟩
    obtain ⟨_, h0, h1⟩ := wl_of hWL hx
    have HWL := qj hWL
    have Hx := qj hx
    have Hlt := qj hlt
    clear hWL hx hlt hk
    go_upto_region 7 with fail
    obtain ⟨W4, hW4⟩ := nmd (wr.alloc (.cells #[.int .i64 x.d, .string x.box] 70))
    have hb4 : WAt W4 wr.heap.size 0 x := by rw [← hW4]; exact wbox
    have hs4 : wr.heap.size < W4.heap.size := by rw [← hW4]; simp
    have g4 : Gn wr W4 := by rw [← hW4]; exact gb_alloc (gb_refl _ _) _
    have HR : Hid (∀ W, Gn W4 W → WAt W wr.heap.size 0 x) := fun W hW => hb4.kept hs4 hW (by simp)
    have HWL4 : Hid (WL W4 (some ⟨g, o, none⟩) n r.wraps) := HWL.out.keep g4
    have Hg4 : Hid (Gn W0 W4) := gb_none hg g4
    rw [hW4]
    clear hW4 hb4 hs4 g4 h0 h1 hgl hg y4
    generalize wr.heap.size = D4 at *
    by_cases ho : 0 ≤ x.d
    case' neg =>
     have s3 : decide (x.d < 0) = true := dcT
     have HF : Hid (¬ WrapsOk r.wraps) := wraps_bad Hx.out (fun h => ho h.1)
     clear ho
    case' pos =>
     have s3 : decide (x.d < 0) = false := dcF
     by_cases ho2 : x.d < 8
     case' neg =>
      have s4 : decide (8 ≤ x.d) = true := dcT
      have HF : Hid (¬ WrapsOk r.wraps) := wraps_bad Hx.out (fun h => ho2 h.2.1)
      clear ho ho2
     case' pos =>
      have s4 : decide (8 ≤ x.d) = false := dcF
      by_cases hs : x.box.size ≤ 200
      case' neg =>
       have s1 : decide (200 < x.box.size) = true := dcT
       have s2 : decide ((200 : Int) < (x.box.size : Int)) = true := dcT
       have HF : Hid (¬ WrapsOk r.wraps) := wraps_bad Hx.out (fun h => hs h.2.2)
       clear ho ho2 hs
      case' pos =>
       have s1 : decide (200 < x.box.size) = false := dcF
       have s2 : decide ((200 : Int) < (x.box.size : Int)) = false := dcF
       have Hod : Hid (RightW x) := ⟨ho, ho2, hs⟩
       clear ho ho2 hs
       rcases k with _ | j
       case' zero => have HN : Hid (WrapsOk (r.wraps.take (0 + 1))) := wraps_next HK.out Hx.out Hod.out (fun j z e _ => (by cases e))
       case' succ =>
        obtain ⟨z, hz⟩ : ∃ z, r.wraps[j]? = some z := ⟨_, List.getElem?_eq_getElem (by have := HWL4.out.1; have := Hlt.out; omega)⟩
        have HZ : Hid (∀ W, Gn W4 W → WAt W g (o + j * 2) z) := fun W hW => (wl_of HWL4.out hz).2.kept (wl_of HWL4.out hz).1 hW (by simp)
        have Hz := qj hz
        have z1 : ((j + 1 : Nat) : Int) - 1 = (j : Int) := by omega
        have z2 : (j : Int) < (n : Int) := by have := Hlt.out; omega
        have z3 : IntKind.i64.wrap (((j + 1 : Nat) : Int) - 1) = (j : Int) := by rw [IntKind.wrap_i64]; have := Hlt.out; have := Hn.out; omega
        have z5 : IntKind.i64.wrap (j : Int) = (j : Int) := by rw [IntKind.wrap_i64]; have := Hlt.out; have := Hn.out; omega
        have z4 : decide (0 < j + 1) = true := by simp
        clear hz
        by_cases hzx : z.d < x.d
        case' pos =>
         have v1 : decide (x.d ≤ z.d) = false := dcF
         have HN : Hid (WrapsOk (r.wraps.take (j + 1 + 1))) := wraps_next HK.out Hx.out Hod.out (at_last Hz.out hzx)
         clear hzx
        case' neg =>
         have v1 : decide (x.d ≤ z.d) = true := dcT
         have HF : Hid (¬ WrapsOk r.wraps) := wraps_fall Hz.out Hx.out (by omega)
         clear hzx
    all_goals
     refine tw_go ?_
     refine tw_h 4 ?_
     apply tw_xe 0 72
     ·intro W f hW e72 K hK; obtain ⟨hc0, hc1⟩ := HR.out W hW; go_simp; exact kK hK
     refine tw_e 0 73 ?_
     refine tw_e 0 74 ?_
     first | refine tw_no 0 ?_ | refine tw_gh 0 75 4 ?_
     first | refine tw_no 1 ?_ | (apply tw_is; · intro W f hW hE h0 K hK; have e76 := hE.of 0 76; have e75 := hE.of 1 75; clear hE h0; refine yes_g e75 ?_; obtain ⟨hc0, hc1⟩ := HR.out W hW; go_simp; exact kK hK)
     first | refine tw_no 2 ?_ | refine tw_ge 2 75 0 77 ?_
     refine tw_ee 3 75 0 78 ?_
     refine tw_e 0 79 ?_
     first | refine tw_no 0 ?_ | refine tw_gh 0 80 4 ?_
     first | refine tw_no 1 ?_ | (apply tw_is; · intro W f hW hE h0 K hK; have e81 := hE.of 0 81; have e80 := hE.of 1 80; clear hE h0; refine yes_g e80 ?_; obtain ⟨hc0, hc1⟩ := HR.out W hW; go_simp; exact kK hK)
     first | refine tw_no 2 ?_ | refine tw_ge 2 80 0 82 ?_
     first | refine tw_no 3 ?_ | refine tw_ge 3 80 0 83 ?_
     refine tw_ee 4 80 0 84 ?_
     refine tw_e 0 85 ?_
     first | refine tw_no 0 ?_ | refine tw_gh 0 86 3 ?_
     first | refine tw_no 1 ?_ | refine tw_ge 1 86 0 87 ?_
     first | refine tw_no 2 ?_ | refine tw_ge 2 86 0 88 ?_
     first | refine tw_no 0 ?_ | refine tw_gh 0 89 1 ?_
     first | refine tw_no 1 ?_ | (apply tw_is; · intro W f hW hE h0 K hK; have e90 := hE.of 0 90; have e89 := hE.of 1 89; clear hE h0; refine yes_g e89 ?_; obtain ⟨⟨_, _, _, _, hy4, _⟩, _⟩ := HX.out W (gb_none Hg4.out hW); rw [Hnn.out] at hy4; go_simp; exact kK hK)
     first | refine tw_no 2 ?_ | refine tw_gh 2 89 3 ?_
     first | refine tw_no 3 ?_ | refine tw_ge 3 89 0 92 ?_
     first | refine tw_no 4 ?_ | (apply tw_is; · intro W f hW hE h0 K hK; have e91 := hE.of 2 91; have e93 := hE.of 0 93; have e89 := hE.of 4 89; clear hE h0; refine yes_g e89 ?_; go_simp; exact kK hK)
     first | refine tw_no 5 ?_ | refine tw_ge 5 89 0 94 ?_
     first | refine tw_no 6 ?_ | (apply tw_is; · intro W f hW hE h0 K hK; have e95 := hE.of 0 95; have e89 := hE.of 6 89; clear hE h0; refine yes_g e89 ?_; obtain ⟨hc0, hc1⟩ := HZ.out W hW; go_simp; exact kK hK)
     first | refine tw_no 7 ?_ | refine tw_gh 7 89 4 ?_
     first | refine tw_no 8 ?_ | (apply tw_is; · intro W f hW hE h0 K hK; have e97 := hE.of 0 97; have e89 := hE.of 8 89; clear hE h0; refine yes_g e89 ?_; obtain ⟨hc0, hc1⟩ := HR.out W hW; go_simp; exact kK hK)
     first | refine tw_no 9 ?_ | (apply tw_is; · intro W f hW hE h0 K hK; have e96 := hE.of 2 96; have e98 := hE.of 0 98; have e89 := hE.of 9 89; clear hE h0; refine yes_g e89 ?_; go_simp; exact kK hK)
     first | refine tw_no 13 ?_ | (apply tw_is; · intro W f hW hE h0 K hK; have e89 := hE.of 10 89; have e99 := hE.of 0 99; have e86 := hE.of 13 86; clear hE h0; refine yes_g e86 ?_; go_simp; exact kK hK)
     refine tw_ee 14 86 0 100 ?_
     refine tw_nil fun W f hW hA => ?_
     have e101 : f 101 = _ := hA 0 (some 101) _ rfl
     rw [e101]
     clear hA
     have Hw := qj hW
     clear hW
     first | (have hf := HF.out; clear hf; go_wp2_with fail; go_ret; exact .of_no (fun h => HF.out h.2) (gb_none HG.out (gb_none Hg4.out Hw.out))) | (have b9 := Hlt.out; have b8 := Hn.out; go_wp2_with fail; go_roundw; (case rel => first | exact ⟨0 + 1, by have := Hlt.out; omega, by go_num, HN.out, gb_none Hg4.out Hw.out⟩ | exact ⟨j + 1 + 1, by have := Hlt.out; omega, by go_num, HN.out, gb_none Hg4.out Hw.out⟩); (case measure => simp [intOf]; have := Hlt.out; omega))
   ·have hkn : k = n := by omega
    subst hkn
    have d1 : decide (k < k) = false := by simp
    have d2 : decide ((k : Int) < (k : Int)) = false := by simp
    have He : Hid (WrapsOk r.wraps) := wraps_all HK.out hWL.1
    clear hWL
    go_wp2_with fail
    go_ret
    exact .of_yes ⟨Hm.out, He.out⟩ (gb_none HG.out hg)
theorem refMay_any (r : Rc) (A : Option Addr) (c : Nat) (w : World) (hw : WL w A r.wraps.length r.wraps) (hn : r.wraps.length ≤ 1099511627776) :
  Calls Tryz.prog 54 #[.agg (recCs r A c)] w (BoolIs (MayR r) w) := by
 by_cases hm : MayH r
 ·exact refMay_yes r A c w hw hn hm
 ·exact refMay_no r A c w hw hn hm
end Go.Proofs.YtpcjbjpofcdjeaaGreatDoor.Mb
end
