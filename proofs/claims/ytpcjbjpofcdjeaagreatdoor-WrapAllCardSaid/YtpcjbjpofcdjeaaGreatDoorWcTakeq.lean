/- The program's Take. Written by gen_wc10.py. -/
import Derived.Test.YtpcjbjpofcdjeaaGreatDoorTwq
import Derived.Test.YtpcjbjpofcdjeaaGreatDoorWcTakePq
import Derived.Test.YtpcjbjpofcdjeaaGreatDoorWcTakeRq
import Derived.Test.YtpcjbjpofcdjeaaGreatDoorWcCopyq
set_option linter.unusedVariables false
set_option maxHeartbeats 16000000
set_option maxRecDepth 100000
namespace Go.Proofs.YtpcjbjpofcdjeaaGreatDoor.Wc
open Go Go.RowKit Mm Td Vw Dt
open Mb Ro Hh We
attribute [local go_sem] Td.upon_value Td.upon_skip Td.upon_enter Td.upon_row Td.look_tmp Td.look_const Td.look_func Td.look_global
def NewsIs (l : List Rc) (ks : List Mb.Wp) (own : ByteArray) (id : Int) (r : Rc) (news : List Mb.Wp) : Prop := (takeE l ks own id r ≠ 0 ∧ news = []) ∨ (takeE l ks own id r = 0 ∧ ((inB (l ++ [r]) ((l.length : Int) + 1) id = false ∧ news = []) ∨ (inB (l ++ [r]) ((l.length : Int) + 1) id = true ∧ ∃ x, unwrapR own r id = some x ∧ news = [⟨(l.length : Int) + 1, x⟩])))
theorem bad_of {l : List Rc} {ks : List Mb.Wp} {own : ByteArray} {id : Int} {r : Rc} {n : Nat} (hn : l.length = n) (hs : r.seq = (n : Int) + 1) (hri : RiseW ks) (h : ∃ x ∈ ks, x.d = r.seq - 1 ∧ r.tag ≠ tagR x.box r) : BadTag ks l own id r := by
 obtain ⟨x, hx, hd, ht⟩ := h
 exact .inl ⟨x.box, keyOf_of hri hx (by rw [hn]; omega), ht⟩
theorem bad_not {l : List Rc} {ks : List Mb.Wp} {own : ByteArray} {id : Int} {r : Rc} {n : Nat} (hn : l.length = n) (hs : r.seq = (n : Int) + 1) (h : ∀ x ∈ ks, x.d = r.seq - 1 → r.tag = tagR x.box r) (h2 : inB (l ++ [r]) ((l.length : Int) + 1) id = true → unwrapR own r id ≠ none) : ¬ BadTag ks l own id r := by
 rintro (⟨k, hk, ht⟩ | ⟨h3, h4⟩)
 ·obtain ⟨x, hx, hd, rfl⟩ := keyOf_mem hk
  exact ht (h x hx (by rw [hd, hn]; omega))
 ·exact h2 h3 h4
theorem brought_any (own : ByteArray) (l : List Rc) (ks : List Mb.Wp) (id : Int) (r : Rc) (A K RA : Option Addr) (n c m kc rc : Nat) (w : World) (hl : LogL w A n l) (hn : n ≤ 999999) (hc : n ≤ c) (hb : ∀ x ∈ l, x.wraps.length ≤ 1099511627776) (hk : WL w K m ks) (hm : m ≤ 999999) (hks : ∀ x ∈ ks, x.box.size ≤ 1048576) (hw : WL w RA r.wraps.length r.wraps) (hrn : r.wraps.length ≤ 1099511627776) (hrc : r.wraps.length ≤ rc) (hbx : ∀ x ∈ r.wraps, x.box.size ≤ 1099511627776) (htg : r.tag.size ≤ 281474976710656) (ho : own.size ≤ 1048576) (hR : AllR w) :
  Calls Tryz.prog 47 #[.slice A n c, .slice K m kc, .string own, .int .i64 id, .agg (recCs r RA rc)] w fun e w' => (∃ A' c' v news, e = .returned (.tuple #[.slice A' (List.length news) c', v]) ∧ Tells 2 v (takeE l ks own id r) ∧ WL w' A' (List.length news) news ∧ List.length news ≤ c' ∧ NewsIs l ks own id r news) ∧ Gn w w' := by
 obtain ⟨b0, hb0⟩ := nmd (w.heap.size)
 obtain ⟨W0, hW0⟩ := nmd (w.alloc (.cells (recCs r RA rc) 25))
 obtain ⟨G0, HX⟩ := rec_box hb0 hW0 hw
 have HG := qj G0
 have Hln : Hid (l.length = n) := hl.1
 have hT := hR.1.1
 have HHd := qj (had_any A K n c m kc l ks W0 (hl.keep G0) hb (hk.keep G0) hm (hT.keep G0 (fun _ h => by cases h)) (hR.2.2.1.keep G0))
 have HNx := qj fun W (hW : Gn W0 W) => next_any A RA n c rc l r W (hl.keep (gb_none G0 hW)) hn hc hb (hw.keep (gb_none G0 hW)) hrn hrc (hT.keep (gb_none G0 hW) (fun _ h => by cases h)) (hR.2.2.1.keep (gb_none G0 hW))
 have HTg := qj fun (h1 : r.seq = (n : Int) + 1) W (hW : Gn W0 W) => tagged_any K RA m kc rc ks r W (hk.keep (gb_none G0 hW)) hm hks (hw.keep (gb_none G0 hW)) hrn (by omega) (Nat.le_trans htg (by decide)) (hT.keep (gb_none G0 hW) (fun _ h => by cases h))
 have HWi := qj fun W (hW : Gn W0 W) => with_any A n c l r RA rc W (hl.keep (gb_none G0 hW)) (by omega) hc (hw.keep (gb_none G0 hW)) hrc
 have HInA := qj fun A' c' W (h1 : LogL W A' (n + 1) (l ++ [r])) => pIn_any A' (n + 1) c' (l ++ [r]) ((n : Int) + 1) id W h1 (by omega)
 have HOp := qj fun W (hW : Gn W0 W) => opened_any own r RA rc id W (hw.keep (gb_none G0 hW)) hrn hbx ho (hR.keep (gb_none G0 hW))
 clear hl hn hc hb hk hm hks hw hrn hrc hbx htg ho hR hT G0
 go_enter Tryz.func47, Tryz.ntmps47
 go_upto_region 1 with fail
 clear hW0 hb0
 go_wp2_with fail
 refine HHd.out.mono ?_
 rintro e w1 ⟨⟨v, k, rfl, hv, hk⟩, g1⟩
 have Hg1 := qj g1
 clear g1 HHd
 rcases hk with ⟨rfl, hch, hri⟩ | ⟨rfl, hno⟩
 ·obtain rfl := hv.nil rfl
  have HCk : Hid (ChainR l ∧ RiseW ks) := ⟨hch, hri⟩
  obtain ⟨⟨y0, y1, y2, y3, y4, y5⟩, _⟩ := HX.out w1 Hg1.out
  clear hch hri hv
  go_wp2_with fail
  refine (HNx.out w1 Hg1.out).mono ?_
  rintro e w2 ⟨⟨v, rfl, hv⟩, g2⟩
  have Hg2 := qj (gb_none Hg1.out g2)
  clear g2 HNx y0 y1 y2 y3 y4 y5
  by_cases hne : nextE l r = 0
  ·rw [hne] at hv
   obtain rfl := hv.nil rfl
   have HC2 : Hid (ChainR (l ++ [r])) := (nextE_zero hne).2.2
   have hsq : r.seq = (n : Int) + 1 := by
    have h1 : r.seq = (l.length : Int) + 1 := (good_snoc.1 HC2.out.2).2.2.1
    rw [Hln.out] at h1; exact h1
   have HTg2 := qj (HTg.out hsq w2 Hg2.out)
   have Hsq := qj hsq
   obtain ⟨⟨y0, y1, y2, y3, y4, y5⟩, _⟩ := HX.out w2 Hg2.out
   clear hne hv hsq HTg
   go_wp2_with fail
   refine HTg2.out.mono ?_
   rintro e w3 ⟨⟨v, k, rfl, hv, hk⟩, g3⟩
   have Hgw := qj (gb_none Hg2.out g3)
   clear g3 HTg2 y0 y1 y2 y3 y4 y5
   rcases hk with ⟨rfl, hok⟩ | ⟨rfl, hbad⟩
   ·obtain rfl := hv.nil rfl
    have Hok := qj hok
    obtain ⟨ib, hib⟩ := nmd (inB (l ++ [r]) ((n : Int) + 1) id)
    have HIn := qj fun A' c' W h1 => HInA.out A' c' W h1
    rw [hib] at HIn
    rw [← Hsq.out] at HIn
    have HIb : Hid (inB (l ++ [r]) ((l.length : Int) + 1) id = ib) := by show _ = _; rw [Hln.out]; exact hib
    clear hv hok hib HInA
    go_upto_region 10 with fail
    refine tw_go ?_
    refine tw_h 0 ?_
    apply tw_xh 9
    ·intro W f hW e9 K hK; obtain ⟨⟨y0, y1, y2, y3, y4, y5⟩, _⟩ := HX.out W (gb_none Hgw.out hW); go_simp; exact kK hK
    apply tw_at logV_stays
    ·intro W f hW hE h0 K hK; have e43 := hE.of 1 43; have e44 := hE.of 0 44; clear hE h0; refine yes_f ?_; go_simp; refine (HWi.out W (gb_none Hgw.out hW)).mono ?_; rintro e w1' ⟨A', c', rfl, h1, h2, g'⟩; exact ⟨_, rfl, hK _ _ g' ⟨_, _, rfl, h1, h2⟩⟩
    refine tw_h 9 ?_
    apply tw_xe 0 46
    ·intro W f hW e46 K hK; obtain ⟨⟨y0, y1, y2, y3, y4, y5⟩, _⟩ := HX.out W (gb_none Hgw.out hW); go_simp; exact kK hK
    refine tw_h 3 ?_
    apply tw_is
    ·intro W f hW hE h0 K hK; have e45 := hE 3 45 _ rfl (by kernel_rfl); have e47 := hE.of 1 47; have e48 := hE.of 0 48; clear hE h0; refine yes_f ?_; obtain ⟨A4, c4, e45, h4, _⟩ := e45; go_simp; exact ck (HIn.out A4 c4 W h4) hK
    refine tw_e 0 49 ?_
    refine tw_nil fun W f hW hA => ?_
    have e50 : f 50 = _ := hA 0 (some 50) _ rfl
    rw [e50]
    clear hA
    have Hg4 := qj (gb_none Hgw.out hW)
    clear hW
    cases ib with
    | false =>
     have hnb : ¬ BadTag ks l own id r := bad_not Hln.out Hsq.out Hok.out fun h => by rw [HIb.out] at h; cases h
     have HE : Hid (takeE l ks own id r = 0) := take_ok HCk.out HC2.out hnb
     clear hnb
     go_wp2_with fail
     exact bodyPost_ret (results_tmp2 rfl _ _ _) rfl ⟨⟨none, 0, _, [], rfl, by rw [HE.out]; exact .none _, WL.none _ _, Nat.le_refl _, .inr ⟨HE.out, .inl ⟨HIb.out, rfl⟩⟩⟩, gb_none HG.out Hg4.out⟩
    | true =>
     obtain ⟨⟨y0, y1, y2, y3, y4, y5⟩, _⟩ := HX.out W Hg4.out
     have HO4 := qj (HOp.out W Hg4.out)
     obtain ⟨o9, ho9⟩ := nmd (unwrapR own r id)
     rw [ho9] at HO4
     have Ho9 := qj ho9
     clear ho9 HOp
     go_wp2_with fail
     refine HO4.out.mono ?_
     rintro e w5 ⟨⟨v, rfl, hv⟩, g5⟩
     have Hg5 := qj (gb_none Hg4.out g5)
     clear g5 HO4 y0 y1 y2 y3 y4 y5
     rcases hv with ⟨h1, rfl⟩ | ⟨rfl, h1⟩
     ·obtain ⟨q, rfl⟩ : ∃ q, o9 = some q := by
       cases o9 with
       | none => exact absurd rfl h1
       | some q => exact ⟨q, rfl⟩
      have hnb : ¬ BadTag ks l own id r := bad_not Hln.out Hsq.out Hok.out fun _ => by rw [Ho9.out]; simp
      have HE : Hid (takeE l ks own id r = 0) := take_ok HCk.out HC2.out hnb
      obtain ⟨⟨y0, y1, y2, y3, y4, y5⟩, _⟩ := HX.out w5 Hg5.out
      clear h1 hnb
      go_wp2_with fail
      exact bodyPost_ret (results_tmp2 rfl _ _ _) rfl ⟨⟨some ⟨w5.heap.size, 0, none⟩, 1, _, [⟨r.seq, q⟩], rfl, by rw [HE.out]; exact .none _, key_one (x := ⟨r.seq, q⟩), Nat.le_refl _, .inr ⟨HE.out, .inr ⟨HIb.out, q, Ho9.out, by rw [Hln.out, Hsq.out]⟩⟩⟩, gb_alloc (gb_none HG.out Hg5.out) _⟩
     ·have hbd : BadTag ks l own id r := .inr ⟨HIb.out, Ho9.out⟩
      have hT9 := Tells.part h1 (by decide) ⟨#[114, 101, 99, 111, 114, 100]⟩ r.seq
      obtain ⟨t0, p0, rfl⟩ := h1.iface (by decide)
      clear Hgw
      have Hgw := qj (Hg5.out)
      have HT2 : Hid (Tells 2 _ 9) := hT9
      have HE : Hid (takeE l ks own id r = 9) := take_tag HCk.out HC2.out hbd
      clear h1 hbd hT9
      go_upto_region 14 with fail
      refine tw_go ?_
      refine tw_h 9 ?_
      apply tw_xe 0 60
      ·intro W f hW e60 K hK; obtain ⟨⟨y0, y1, y2, y3, y4, y5⟩, _⟩ := HX.out W (gb_none Hgw.out hW); go_simp; exact kK hK
      refine tw_h 16 ?_
      refine tw_ee 1 61 0 62 ?_
      refine tw_e 0 63 ?_
      apply tw_is
      ·intro W f hW hE h0 K hK; clear hE h0; refine yes_f ?_; go_simp; exact kK hK
      refine tw_e 1 64 ?_
      refine tw_nil fun W f hW hA => ?_
      have e10 : f 10 = _ := hA 1 (some 10) _ rfl
      rw [e10]
      have e11 : f 11 = _ := hA 0 (some 11) _ rfl
      rw [e11]
      clear hA
      have Hw := qj (gb_none HG.out (gb_none Hgw.out hW))
      clear hW
      go_wp2_with fail
      exact bodyPost_ret (results_tmp2 rfl _ _ _) rfl ⟨⟨none, 0, _, [], rfl, by rw [HE.out]; exact HT2.out, WL.none _ _, Nat.le_refl _, .inl ⟨by rw [HE.out]; decide, rfl⟩⟩, Hw.out⟩
   ·have hbd : BadTag ks l own id r := bad_of Hln.out Hsq.out HCk.out.2 hbad
    have hT9 := Tells.part hv (by decide) ⟨#[114, 101, 99, 111, 114, 100]⟩ r.seq
    obtain ⟨t0, p0, rfl⟩ := hv.iface (by decide)
    have Hg3 := Hgw
    clear Hgw
    have Hgw := qj (Hg3.out)
    have HT2 : Hid (Tells 2 _ 9) := hT9
    have HE : Hid (takeE l ks own id r = 9) := take_tag HCk.out HC2.out hbd
    clear hv hbd hT9 hbad
    go_upto_region 9 with fail
    refine tw_go ?_
    refine tw_h 9 ?_
    apply tw_xe 0 38
    ·intro W f hW e38 K hK; obtain ⟨⟨y0, y1, y2, y3, y4, y5⟩, _⟩ := HX.out W (gb_none Hgw.out hW); go_simp; exact kK hK
    refine tw_h 14 ?_
    refine tw_ee 1 39 0 40 ?_
    refine tw_e 0 41 ?_
    apply tw_is
    ·intro W f hW hE h0 K hK; clear hE h0; refine yes_f ?_; go_simp; exact kK hK
    refine tw_e 1 42 ?_
    refine tw_nil fun W f hW hA => ?_
    have e10 : f 10 = _ := hA 1 (some 10) _ rfl
    rw [e10]
    have e11 : f 11 = _ := hA 0 (some 11) _ rfl
    rw [e11]
    clear hA
    have Hw := qj (gb_none HG.out (gb_none Hgw.out hW))
    clear hW
    go_wp2_with fail
    exact bodyPost_ret (results_tmp2 rfl _ _ _) rfl ⟨⟨none, 0, _, [], rfl, by rw [HE.out]; exact HT2.out, WL.none _ _, Nat.le_refl _, .inl ⟨by rw [HE.out]; decide, rfl⟩⟩, Hw.out⟩
  ·have hE := take_nextE (own := own) (id := id) HCk.out hne
   have hT9 := Tells.part hv hne ⟨#[114, 101, 99, 111, 114, 100]⟩ r.seq
   obtain ⟨t0, p0, rfl⟩ := hv.iface hne
   have Hne := qj hne
   have Hgw := qj (Hg2.out)
   have HT2 : Hid (Tells 2 _ (nextE l r)) := hT9
   have HE : Hid (takeE l ks own id r = (nextE l r)) := hE
   clear hv hE hT9 hne
   go_upto_region 6 with fail
   refine tw_go ?_
   refine tw_h 9 ?_
   apply tw_xe 0 28
   ·intro W f hW e28 K hK; obtain ⟨⟨y0, y1, y2, y3, y4, y5⟩, _⟩ := HX.out W (gb_none Hgw.out hW); go_simp; exact kK hK
   refine tw_h 13 ?_
   refine tw_ee 1 29 0 30 ?_
   refine tw_e 0 31 ?_
   apply tw_is
   ·intro W f hW hE h0 K hK; clear hE h0; refine yes_f ?_; go_simp; exact kK hK
   refine tw_e 1 32 ?_
   refine tw_nil fun W f hW hA => ?_
   have e10 : f 10 = _ := hA 1 (some 10) _ rfl
   rw [e10]
   have e11 : f 11 = _ := hA 0 (some 11) _ rfl
   rw [e11]
   clear hA
   have Hw := qj (gb_none HG.out (gb_none Hgw.out hW))
   clear hW
   go_wp2_with fail
   exact bodyPost_ret (results_tmp2 rfl _ _ _) rfl ⟨⟨none, 0, _, [], rfl, by rw [HE.out]; exact HT2.out, WL.none _ _, Nat.le_refl _, .inl ⟨by rw [HE.out]; exact Hne.out, rfl⟩⟩, Hw.out⟩
 ·have HE : Hid (takeE l ks own id r = 1) := take_arg hno
  have HT2 := qj (hv.more (n := 2) (by decide))
  obtain ⟨t0, p0, rfl⟩ := hv.iface (by decide)
  clear hv hno
  go_wp2_with fail
  exact bodyPost_ret (results_tmp2 rfl _ _ _) rfl ⟨⟨none, 0, _, [], rfl, by rw [HE.out]; exact HT2.out, WL.none _ _, Nat.le_refl _, .inl ⟨by rw [HE.out]; decide, rfl⟩⟩, gb_none HG.out Hg1.out⟩
end Go.Proofs.YtpcjbjpofcdjeaaGreatDoor.Wc
namespace Go.Proofs.YtpcjbjpofcdjeaaGreatDoor.Wc
open Go Go.RowKit Mm Td Vw Dt
open Mb Ro Hh We
attribute [local go_sem] Td.upon_value Td.upon_skip Td.upon_enter Td.upon_row Td.look_tmp Td.look_const Td.look_func Td.look_global
theorem take_any (own : ByteArray) (l : List Rc) (ks : List Mb.Wp) (id : Int) (r : Rc) (A K RA : Option Addr) (n c m kc rc : Nat) (w : World) (hl : LogL w A n l) (hn : n ≤ 999998) (hc : n ≤ c) (hb : ∀ x ∈ l, x.wraps.length ≤ 999999 ∧ x.prev.size ≤ 281474976710656 ∧ x.tag.size ≤ 281474976710656 ∧ ∀ z ∈ x.wraps, z.box.size ≤ 1099511627776) (hk : WL w K m ks) (hm : m ≤ 999998) (hks : ∀ x ∈ ks, x.box.size ≤ 1048576) (hw : WL w RA r.wraps.length r.wraps) (hrc : r.wraps.length ≤ rc) (hr : r.wraps.length ≤ 999999 ∧ r.prev.size ≤ 281474976710656 ∧ r.tag.size ≤ 281474976710656 ∧ ∀ z ∈ r.wraps, z.box.size ≤ 1099511627776) (ho : own.size ≤ 1048576) (hR : AllR w) :
  Calls Tryz.prog 16 #[.slice A n c, .slice K m kc, .string own, .int .i64 id, .agg (recCs r RA rc)] w fun e w' => ∃ l' ks' A' c' K' kc', e = .returned (.tuple #[.slice A' (List.length l') c', .slice K' (List.length ks') kc', .int .i64 (takeE l ks own id r)]) ∧ LogKeys l ks own id r (takeE l ks own id r) l' ks' ∧ LogL w' A' (List.length l') l' ∧ List.length l' ≤ c' ∧ WL w' K' (List.length ks') ks' ∧ List.length ks' ≤ kc' ∧ Gn w w' := by
 obtain ⟨b0, hb0⟩ := nmd (w.heap.size)
 obtain ⟨W0, hW0⟩ := nmd (w.alloc (.cells (recCs r RA rc) 25))
 obtain ⟨G0, HX⟩ := rec_box hb0 hW0 hw
 obtain ⟨⟨y0, y1, y2, y3, y4, y5⟩, hwl⟩ := HX.out W0 (gb_refl _ _)
 have HG := qj G0
 have HBr := qj (brought_any own l ks id r A K RA n c m kc rc W0 (hl.keep G0) (by omega) hc (fun x hx => Nat.le_trans (hb x hx).1 (by decide)) (hk.keep G0) (by omega) hks hwl (Nat.le_trans hr.1 (by decide)) hrc hr.2.2.2 hr.2.2.1 ho (hR.keep G0))
 have HWi := qj fun W (hW : Gn W0 W) => with_any A n c l r RA rc W (hl.keep (gb_none G0 hW)) (by omega) hc (hw.keep (gb_none G0 hW)) hrc
 have HT : Hid (∀ W, Gn w W → ErrT W) := fun W hW => (hR.keep hW).2.2.2
 have Hl : Hid (LogL w A n l) := hl
 have Hk : Hid (WL w K m ks) := hk
 have Hn : Hid (n ≤ 999998 ∧ m ≤ 999998) := ⟨hn, hm⟩
 have Hks := qj hks
 have hbg : ∀ x : Rc, (x.wraps.length ≤ 999999 ∧ x.prev.size ≤ 281474976710656 ∧ x.tag.size ≤ 281474976710656 ∧ ∀ z ∈ x.wraps, z.box.size ≤ 1099511627776) → x.wraps.length ≤ 999999 ∧ x.prev.size ≤ 281474976710656 ∧ x.tag.size ≤ 281474976710656 ∧ ∀ z ∈ x.wraps, z.box.size ≤ 281474976710656 := fun x h => ⟨h.1, h.2.1, h.2.2.1, fun z hz => Nat.le_trans (h.2.2.2 z hz) (by decide)⟩
 replace hb : ∀ x ∈ l, x.wraps.length ≤ 999999 ∧ x.prev.size ≤ 281474976710656 ∧ x.tag.size ≤ 281474976710656 ∧ ∀ z ∈ x.wraps, z.box.size ≤ 281474976710656 := fun x hx => hbg x (hb x hx)
 replace hr := hbg r hr
 have Hb := qj hb
 have Hb2 : Hid (∀ x ∈ l ++ [r], x.wraps.length ≤ 999999 ∧ x.prev.size ≤ 281474976710656 ∧ x.tag.size ≤ 281474976710656 ∧ ∀ z ∈ x.wraps, z.box.size ≤ 281474976710656) := fun x hx => (List.mem_append.1 hx).elim (hb x) fun h => by rw [List.mem_singleton.1 h]; exact hr
 obtain ⟨k, hk9⟩ := nmd (takeE l ks own id r)
 have Hln : Hid (l.length = n) := hl.1
 rw [hk9] at HBr
 have HK9 := qj hk9
 clear hl hn hc hb hk hm hks hw hrc hr ho hR G0 hwl hk9 hbg
 go_enter Tryz.func16, Tryz.ntmps16
 go_upto_region 1 with fail
 clear hW0 hb0
 go_wp2_with fail
 refine HBr.out.mono ?_
 rintro e w1 ⟨⟨A5, c5, v, news, rfl, hv, hwn, hcn, hnews⟩, g1⟩
 have Hg1 := qj g1
 have Hgw := qj (gb_none HG.out g1)
 have Hcn := qj hcn
 clear g1 hcn HBr y0 y1 y2 y3 y4 y5
 unfold NewsIs at hnews
 rw [HK9.out] at hnews
 rcases hnews with ⟨hne, rfl⟩ | ⟨rfl, hin⟩
 ·have Hv := qj hv
  obtain ⟨t0, p0, rfl⟩ := hv.iface hne
  have HN : Hid (WL w1 A5 (List.length ([] : List Mb.Wp)) []) := hwn
  have HGx : Hid (Gn w1 w1) := gb_refl _ _
  obtain ⟨news, hnw⟩ := nmd (([] : List Mb.Wp))
  rw [hnw] at HN Hcn ⊢
  have Hq : Hid (news.length ≤ 1) := by rw [← hnw]; exact Nat.zero_le _
  have HLK : Hid (LogKeys l ks own id r k l (ks ++ news)) := .inl ⟨hne, rfl, by rw [← hnw, List.append_nil]⟩
  clear hne hv hwn hnw
  go_wp2_with fail
  refine (copies_any A n c l w1 (Hl.out.keep Hgw.out) (by have := Hn.out; omega) Hb.out).mono ?_
  rintro e wc ⟨A2, c2, rfl, hl2, hc2, g2⟩
  have HL2 := qj hl2
  have Hc2 := qj hc2
  have HGc := qj (gb_none Hgw.out g2)
  have HN2 := qj (HN.out.keep (gb_none HGx.out g2))
  clear hl2 hc2 g2
  go_wp2_with fail
  refine (copyKeys_any K m kc ks wc (Hk.out.keep HGc.out) (by have := Hn.out; omega) (fun x hx => Nat.le_trans (Hks.out x hx) (by decide))).mono ?_
  rintro e wk ⟨v3, rfl, hk3, g3⟩
  obtain ⟨k1, k2, k3, rfl⟩ := hk3.slice
  obtain ⟨v4, w4, hr4, hc4, hu4⟩ := run_keys (w := wk) 26 wc.heap.size (.slice k1 k2 k3) ks hk3 (by have := Hn.out; have := Hk.out.1; omega) g3.size A5 news.length c5 news (HN2.out.keep g3) (by have := Hq.out; omega) Hcn.out
  have Hr4 := qj hr4
  have HL4 := qj (HL2.out.keep (hu4 wc (Nat.le_refl _) g3))
  have HG4 : Hid (Gn w w4) := hu4 w HGc.out.size (gb_none HGc.out g3)
  obtain ⟨K4, k4, rfl, hwl4, hle4⟩ := hc4.wl
  have HW4 : Hid (WL w4 K4 (ks ++ news).length (ks ++ news) ∧ (ks ++ news).length ≤ k4) := ⟨hwl4, hle4⟩
  clear hr4 hk3 g3 hc4 hu4 hwl4 hle4
  go_wp2_with (at_builtin; go_must (refine Lib.wpList_append_run _ rfl (.tmp 32) (.tmp 33) 26 26 rfl _ _ rfl rfl _ _ Hr4.out ?_))
  clear Hr4
  go_wp2_with fail
  refine (number_any Hv.out (by decide) w4 (HT.out w4 HG4.out)).mono ?_
  rintro e w5 ⟨rfl, g5⟩
  have Hg5 := qj g5
  clear g5
  go_wp2_with fail
  exact bodyPost_ret (results_tmp3 rfl _ _ _) rfl ⟨l, ks ++ news, A2, c2, K4, k4, by rw [HK9.out, HL2.out.1, List.length_append]; rfl, by rw [HK9.out]; exact HLK.out, by rw [HL2.out.1]; exact HL4.out.keep Hg5.out, by rw [HL2.out.1]; exact Hc2.out, HW4.out.1.keep Hg5.out, HW4.out.2, gb_none HG4.out Hg5.out⟩
 ·have Hv := qj hv
  obtain rfl := hv.nil rfl
  have HN := qj hwn
  have Hq : Hid (news.length ≤ 1) := by
   show _ ≤ _
   rcases hin with ⟨_, rfl⟩ | ⟨_, x, _, rfl⟩ <;> simp
  have HLK : Hid (LogKeys l ks own id r 0 (l ++ [r]) (ks ++ news)) := by
   refine .inr ⟨rfl, rfl, ?_⟩
   rcases hin with ⟨h1, rfl⟩ | ⟨h1, x, h2, rfl⟩
   ·exact .inl ⟨h1, List.append_nil _⟩
   ·exact .inr ⟨h1, x, h2, rfl⟩
  obtain ⟨⟨y0, y1, y2, y3, y4, y5⟩, _⟩ := HX.out w1 Hg1.out
  clear hv hwn hin
  go_wp2_with fail
  refine (HWi.out w1 Hg1.out).mono ?_
  rintro e w2 ⟨A', c', rfl, hl', hc', g'⟩
  have HL' := qj hl'
  have HGx := qj g'
  have Hgw2 := qj (gb_none Hgw.out g')
  clear hl' hc' g' HWi y0 y1 y2 y3 y4 y5
  go_wp2_with fail
  refine (copies_any A' (n + 1) c' (l ++ [r]) w2 HL'.out (by have := Hn.out; omega) Hb2.out).mono ?_
  rintro e wc ⟨A2, c2, rfl, hl2, hc2, g2⟩
  have HL2 := qj hl2
  have Hc2 := qj hc2
  have HGc := qj (gb_none Hgw2.out g2)
  have HN2 := qj (HN.out.keep (gb_none HGx.out g2))
  clear hl2 hc2 g2
  go_wp2_with fail
  refine (copyKeys_any K m kc ks wc (Hk.out.keep HGc.out) (by have := Hn.out; omega) (fun x hx => Nat.le_trans (Hks.out x hx) (by decide))).mono ?_
  rintro e wk ⟨v3, rfl, hk3, g3⟩
  obtain ⟨k1, k2, k3, rfl⟩ := hk3.slice
  obtain ⟨v4, w4, hr4, hc4, hu4⟩ := run_keys (w := wk) 26 wc.heap.size (.slice k1 k2 k3) ks hk3 (by have := Hn.out; have := Hk.out.1; omega) g3.size A5 news.length c5 news (HN2.out.keep g3) (by have := Hq.out; omega) Hcn.out
  have Hr4 := qj hr4
  have HL4 := qj (HL2.out.keep (hu4 wc (Nat.le_refl _) g3))
  have HG4 : Hid (Gn w w4) := hu4 w HGc.out.size (gb_none HGc.out g3)
  obtain ⟨K4, k4, rfl, hwl4, hle4⟩ := hc4.wl
  have HW4 : Hid (WL w4 K4 (ks ++ news).length (ks ++ news) ∧ (ks ++ news).length ≤ k4) := ⟨hwl4, hle4⟩
  clear hr4 hk3 g3 hc4 hu4 hwl4 hle4
  go_wp2_with (at_builtin; go_must (refine Lib.wpList_append_run _ rfl (.tmp 32) (.tmp 33) 26 26 rfl _ _ rfl rfl _ _ Hr4.out ?_))
  clear Hr4
  go_wp2_with fail
  refine (number_any Hv.out (by decide) w4 (HT.out w4 HG4.out)).mono ?_
  rintro e w5 ⟨rfl, g5⟩
  have Hg5 := qj g5
  clear g5
  go_wp2_with fail
  exact bodyPost_ret (results_tmp3 rfl _ _ _) rfl ⟨(l ++ [r]), ks ++ news, A2, c2, K4, k4, by rw [HK9.out, HL2.out.1, List.length_append]; rfl, by rw [HK9.out]; exact HLK.out, by rw [HL2.out.1]; exact HL4.out.keep Hg5.out, by rw [HL2.out.1]; exact Hc2.out, HW4.out.1.keep Hg5.out, HW4.out.2, gb_none HG4.out Hg5.out⟩
end Go.Proofs.YtpcjbjpofcdjeaaGreatDoor.Wc
