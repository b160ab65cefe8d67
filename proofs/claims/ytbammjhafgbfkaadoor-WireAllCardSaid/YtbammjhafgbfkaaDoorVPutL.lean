/- wire.put of lists, Put. -/
import Derived.Test.YtbammjhafgbfkaaDoorVPut
namespace Go.Proofs.YtbammjhafgbfkaaDoor
open Go.RowKit Wd Mm Vw

theorem bt_below {w0 w w' : World} {b : Nat} {g g' : Option Nat} {p : List UInt8} (hb : Below w0.heap.size w0 w) (hbd : Bd w0.heap.size b g p w) (ht : BT b g g' w w') : Below w0.heap.size w0 w' :=
  hb.trans (ht.below hbd.1 (fun i e => (hbd.lt.2 i e).1) hb.size)
theorem below_alloc {w0 w : World} (hb : Below w0.heap.size w0 w) (o : Obj) : Below w0.heap.size w0 (w.alloc o) := hb.alloc hb.size o

set_option maxHeartbeats 4000000 in
theorem put_list (w0 : World) (b : Nat) (n : Int) (s : ByteArray) (l : List Wr) (hl16 : l.length ≤ 65536) (ih : ∀ x ∈ l, PutOk w0 b x) : PutOk w0 b (.mk 3 n s l) := by
  intro L p g w hL hbel hbd hlen
  replace hL : HL w0 0 L l := hL
  obtain ⟨A, c, rfl⟩ := hL.slice
  rw [enc_mk, if_neg (by decide), if_neg (by decide)] at hlen ⊢
  have hl9 : (UInt8.ofNat ((3 : Int) % 256).toNat :: (highs l.length 4 ++ encs l)).length = 5 + (encs l).length := by
    rw [List.length_cons, List.length_append, highs_len]; omega
  rw [hl9] at hlen
  have hsz := hbel.size
  have Hbd := Lib.hid hbd
  have HL0 := Lib.hid hL
  have Hih := Lib.hid ih
  have Hbel := Lib.hid hbel
  clear hl9 hL hbel hbd ih
  obtain ⟨N, HN⟩ : ∃ N : Nat, Hid (N = (encs l).length) := ⟨_, rfl⟩
  rw [← HN.out] at hlen
  go_enter Tryd.func30, Tryd.ntmps30
  go_wp2_with fail
  refine (writeByte_any w0.heap.size b g p (UInt8.ofNat ((3 : Int) % 256).toNat) 3 (by decide) _ (Hbd.out.kept (gb_alloc (gb_refl _ _) _)) (by omega) (by simp; omega)).mono ?_
  rintro e w2 ⟨rfl, g2, hb2, ht2⟩
  have hfar := Hbd.out.far (Nat.le_refl _)
  have hg2 := far_step ht2 (i := w.heap.size) (by simp) hfar.2
  obtain ⟨⟨b0, b1, b2, b3⟩, _, hbl⟩ := box4 (box_kept Hbd.out ht2)
  have Hbox := Lib.hid (box_kept Hbd.out ht2)
  have Hfar := Lib.hid hfar
  have Hg2 := Lib.hid hg2
  have Hb2 := Lib.hid hb2
  have Ht2 := Lib.hid (ht2.ahead (gb_alloc (gb_refl _ _) _))
  clear hb2 ht2 hfar hg2
  go_wp2_with fail
  refine (putHigh_any w0.heap.size b g2 _ l.length 4 (by decide) _ Hb2.out (by simp; omega) (by have := Ht2.out.size; omega)).mono ?_
  rintro e w3 ⟨rfl, g3, hb3, ht3⟩
  obtain ⟨⟨b0', b1', b2', b3'⟩, _, hbl'⟩ := box4 ((ht3.block hbl Hfar.out.1 Hg2.out).trans Hbox.out)
  have Hb3 := Lib.hid hb3
  have Ht3 := Lib.hid (Ht2.out.trans ht3)
  clear hb3 ht3 b0 b1 b2 b3 Hb2 Ht2 Hbox Hfar Hg2
  go_wp2_with fail
  clear b0' b1' b2' b3' hbl hbl'
  go_loopw [40] (fun i wr => ∃ (j : Nat) (g' : Option Nat), j ≤ l.length ∧ i = .int .i64 j ∧ Hid (Bd w0.heap.size b g' (p ++ UInt8.ofNat ((3 : Int) % 256).toNat :: (highs l.length 4 ++ encs (l.take j))) wr) ∧ Hid (BT b g g' w wr)) (fun i _ => l.length - (intOf i).toNat)
  case atStart =>
    refine ⟨0, g3, Nat.zero_le _, rfl, ?_, Ht3⟩
    have := Hb3.out
    simp only [List.append_assoc] at this
    show Bd _ _ _ _ _
    rw [List.take_zero, encs_nil, List.append_nil]
    exact this
  case round =>
    clear Hb3 Ht3
    obtain ⟨j, g', hj, rfl, Hb, Ht⟩ := hrel
    by_cases hlt : j < l.length
    · have d3 : decide (j < l.length) = true := decide_eq_true hlt
      obtain ⟨x, hx⟩ : ∃ x, l[j]? = some x := ⟨_, List.getElem?_eq_getElem hlt⟩
      have hbr := bt_below Hbel.out Hbd.out Ht.out
      obtain ⟨bg, o, A2, c', rfl, _, hgs, c0, c1, c2, c3, hxl⟩ := HL0.out.item hx
      have hk := hbr.block bg hgs
      rw [← World.cell?_of_block (a := ⟨bg, o + j * 4, none⟩) hk] at c0
      rw [← World.cell?_of_block (a := ⟨bg, o + j * 4 + 1, none⟩) hk] at c1
      rw [← World.cell?_of_block (a := ⟨bg, o + j * 4 + 2, none⟩) hk] at c2
      rw [← World.cell?_of_block (a := ⟨bg, o + j * 4 + 3, none⟩) hk] at c3
      have hgw : bg < wr.heap.size := by have := hbr.size; omega
      have hqx : p.length + 5 + (encs (l.take j)).length + x.enc.length ≤ 1099511627776 := by
        have := encs_part l j x hx
        have := HN.out
        omega
      have Hx := Lib.hid hx
      have Hxl := Lib.hid hxl
      have Hbr := Lib.hid hbr
      clear hx hxl hbr hk
      go_wp2_with fail
      refine (Hih.out x (List.mem_of_getElem? Hx.out) _ _ g' _ Hxl.out (below_alloc Hbr.out _) (Hb.out.kept (gb_alloc (gb_refl _ _) _)) (by simp [highs_len]; omega)).mono ?_
      rintro e w4 ⟨rfl, g4, hb4, ht4⟩
      have Hb4 : Hid (Bd w0.heap.size b g4 (p ++ UInt8.ofNat ((3 : Int) % 256).toNat :: (highs l.length 4 ++ encs (l.take (j + 1)))) w4) := by
        show Bd _ _ _ _ _
        rw [encs_take l j x Hx.out]
        simpa only [List.append_assoc, List.cons_append] using hb4
      have Ht4 := Lib.hid (Ht.out.trans (ht4.ahead (gb_alloc (gb_refl _ _) _)))
      clear hb4 ht4 Hb Ht
      go_wp2_with fail
      go_roundw
      case rel => exact ⟨j + 1, g4, by omega, by go_num, Hb4, Ht4⟩
      case measure => simp [intOf]; omega
    · have d3 : decide (j < l.length) = false := decide_eq_false hlt
      have Hd : Hid (l.take j = l) := List.take_of_length_le (by omega)
      clear hlt
      go_wp2_with fail
      go_end0
      refine ⟨rfl, g', ?_, Ht.out⟩
      have := Hb.out
      rw [Hd.out] at this
      exact this

theorem put_any : ∀ (x : Wr) (room : Int), x.fit room = true → ∀ (w0 : World) (b : Nat), PutOk w0 b x
  | .mk k n s l, room, hf, w0, b => by
    obtain ⟨hk, h1, h3, _, hl⟩ := fit_kinds hf
    rcases hk with rfl | ⟨rfl, rfl⟩ | ⟨rfl, rfl⟩
    · obtain rfl := h1 rfl; exact put_num w0 b n s
    · exact put_text w0 b n s
    · exact put_list w0 b n _ l hl (fun x hx => put_any x (room - 1) (h3 rfl x hx) w0 b)
termination_by x => SizeOf.sizeOf x
decreasing_by
  have := List.sizeOf_lt_of_mem hx
  simp
  omega

set_option maxHeartbeats 2000000 in
theorem put_no (x : Wr) (L : Value) (w : World) (h : HL w 0 L x.l) (hm : x.may = false) :
    Calls Tryd.prog 14 #[.agg #[.int .i64 x.k, .int .i64 x.n, .string x.s, L]] w fun e w' => e = .returned (.string ⟨#[]⟩) ∧ w.grownBy w' none := by
  have hmay := may_any x
  rw [hm] at hmay
  have Hmay := Lib.hid hmay
  have HH := Lib.hid h
  obtain ⟨A, c, rfl⟩ := h.slice
  clear h hmay hm
  go_enter Tryd.func14, Tryd.ntmps14
  go_wp2_with fail
  refine (Hmay.out _ _ (HH.out.kept (gb_alloc (gb_refl _ _) _))).mono ?_
  rintro e w2 ⟨rfl, g2⟩
  go_wp2_with fail
  go_ret
  exact ⟨rfl, gb_none (gb_alloc (gb_refl _ _) _) g2⟩
set_option maxHeartbeats 4000000 in
theorem put_yes (x : Wr) (L : Value) (w : World) (h : HL w 0 L x.l) (hm : x.may = true) (hlen : x.enc.length ≤ 1099511627776) :
    Calls Tryd.prog 14 #[.agg #[.int .i64 x.k, .int .i64 x.n, .string x.s, L]] w fun e w' => e = .returned (.string ⟨x.enc.toArray⟩) ∧ w.grownBy w' none := by
  have hmay := may_any x
  have hsize := size_any x 6 hm hlen
  have hput := put_any x 6 hm
  rw [hm] at hmay
  have Hmay := Lib.hid hmay
  have Hsize := Lib.hid hsize
  have Hput := Lib.hid hput
  have HH := Lib.hid h
  obtain ⟨A, c, rfl⟩ := h.slice
  clear h hmay hm hsize hput
  go_enter Tryd.func14, Tryd.ntmps14
  go_wp2_with fail
  refine (Hmay.out _ _ (HH.out.kept (gb_alloc (gb_refl _ _) _))).mono ?_
  rintro e w2 ⟨rfl, g2⟩
  have g2w := gb_none (gb_alloc (gb_refl w none) _) g2
  have Hbox := Lib.hid (show w2.heap[w.heap.size]? = some (.cells #[.int .i64 x.k, .int .i64 x.n, .string x.s, .slice A x.l.length c] 24 (0, 0)) from (g2.block _ (by simp) (by simp)).trans (heap_alloc_new _ _))
  obtain ⟨⟨b0, b1, b2, b3⟩, _, hbl⟩ := box4 Hbox.out
  clear g2
  go_wp2_with fail
  refine (Hsize.out _ _ (HH.out.kept (gb_alloc g2w _))).mono ?_
  rintro e w3 ⟨rfl, g3⟩
  have Hnew := Lib.hid (show w3.heap[w2.heap.size]? = some (.cells #[.pointer none, .slice none 0 0] 51 (0, 0)) from (g3.block _ (by simp) (by simp)).trans (heap_alloc_new _ _))
  have g3w := gb_none (gb_alloc g2w _) g3
  have Hbox3 := Lib.hid ((g3.block w.heap.size (by simp; omega) (by simp)).trans ((Below.heap_alloc w2 _ w.heap.size hbl).trans Hbox.out))
  obtain ⟨⟨b0', b1', b2', b3'⟩, _, hbl'⟩ := box4 Hbox3.out
  have Hgr := Lib.hid (Tryd.Builder_Grow_fresh w2.heap.size w2.heap.size x.enc.length w3 (Nat.le_refl _) Hnew.out (by have := g3.size; simp at this; omega) (by omega))
  have Hbel3 : Hid (Below w2.heap.size w2 w3) := (below_alloc (w0 := w2) (Below.refl _ _) _).trans (gb_below g3 (by simp))
  have hBb : w.heap.size < w2.heap.size := hbl
  have Hlen := Lib.hid hlen
  clear b0 b1 b2 b3 Hbox g3 hlen
  obtain ⟨N, HN⟩ : ∃ N : Nat, Hid (x.enc.length = N) := ⟨_, rfl⟩
  rw [HN.out] at Hgr ⊢
  go_wp2_with fail
  refine Hgr.out.mono ?_
  rintro e w4 ⟨rfl, hbd, hbel⟩
  obtain ⟨g4, hbd4⟩ := Bd.of (l := []) hbd
  have Hbd4 := Lib.hid hbd4
  have Hbel4 := Lib.hid (Hbel3.out.trans hbel)
  obtain ⟨⟨b0, b1, b2, b3⟩, _, _⟩ := box4 ((hbel.block w.heap.size hBb).trans Hbox3.out)
  clear hbd hbd4 hbel b0' b1' b2' b3' Hgr hbl hbl'
  go_wp2_with fail
  refine (Hput.out w2 w2.heap.size _ [] g4 w4 (HH.out.kept g2w) Hbel4.out Hbd4.out (by have := Hlen.out; simp; omega)).mono ?_
  rintro e w5 ⟨rfl, g5, hbd5, ht5⟩
  have hbel5 := bt_below Hbel4.out Hbd4.out ht5
  rw [List.nil_append] at hbd5
  have Hst := Lib.hid (Tryd.Builder_String_any w2.heap.size w2.heap.size x.enc w5 (.inr (by rw [byte_cells]; exact hbd5.back)) hbel5.size)
  have Hbel5 := Lib.hid hbel5
  clear hbd5 ht5 hbel5 b0 b1 b2 b3
  go_wp2_with fail
  refine Hst.out.mono ?_
  rintro e w6 ⟨rfl, hbel6⟩
  go_wp2_with fail
  go_ret
  refine ⟨rfl, ?_⟩
  have hb := Hbel5.out.trans hbel6
  exact ⟨hb.os.trans g2w.os, hb.tape.trans g2w.tape, hb.output.trans g2w.output, Nat.le_trans g2w.size hb.size, fun i hi hn => (hb.block i (by have := g2w.size; omega)).trans (g2w.block i hi hn)⟩
theorem put_all (x : Wr) (L : Value) (w : World) (h : HL w 0 L x.l) (hlen : x.enc.length ≤ 1099511627776) :
    Calls Tryd.prog 14 #[.agg #[.int .i64 x.k, .int .i64 x.n, .string x.s, L]] w fun e w' => e = .returned (.string x.bytes) ∧ w.grownBy w' none := by
  unfold Wr.bytes
  cases hm : x.may with
  | true => rw [if_pos rfl]; exact put_yes x L w h hm hlen
  | false => rw [if_neg (by decide)]; exact put_no x L w h hm
end Go.Proofs.YtbammjhafgbfkaaDoor
