/- The key of an epoch, sealed for each member: the program's. Written by gen_wc2.py. What all of stage 17 leans on; told specs. Written by gen_wc3.py. -/
import Derived.Test.YtpcjbjpofcdjeaaGreatDoorTwq
import Derived.Test.YtpcjbjpofcdjeaaGreatDoorWcErrq
import Derived.Test.YtpcjbjpofcdjeaaGreatDoorWcMemq
import Derived.Test.YtpcjbjpofcdjeaaGreatDoorMbPutq
import Derived.Test.YtpcjbjpofcdjeaaGreatDoorMbEq
import Derived.Laws.ResultCell
set_option linter.unusedVariables false
set_option maxHeartbeats 16000000
set_option maxRecDepth 100000
section
namespace Go.Proofs.YtpcjbjpofcdjeaaGreatDoor.Wc
open Go Go.RowKit Mm Td Vw Dt
open Mb Ro Hh We
attribute [local go_sem] Td.upon_value Td.upon_skip Td.upon_enter Td.upon_row Td.look_tmp Td.look_const Td.look_func Td.look_global
theorem own_sl {w : World} {B s : Nat} {e : TypeId} {v : Value} {n : Nat} {xs : List Value} (h : w.ownsRow B e s v n xs) : ∃ A m c, v = .slice A m c := by
 rcases h.2 with ⟨rfl, _⟩ | ⟨g, cap, cur, rfl, _⟩
 ·exact ⟨_, _, _, rfl⟩
 ·exact ⟨_, _, _, rfl⟩
theorem wraps_next {s m : ByteArray} {r : Rc} {ds : List Int} {k : Nat} {d : Int} (h : ds[k]? = some d) : wrapsR s m r (ds.take (k + 1)) = wrapsR s m r (ds.take k) ++ [sealR s m r d] := by
 unfold wrapsR
 rw [List.take_add_one, h, List.map_append]; rfl
theorem wraps_len (s m : ByteArray) (r : Rc) (ds : List Int) : (wrapsR s m r ds).length = ds.length := List.length_map _
theorem own_wl_far {w : World} {B n : Nat} {t : TypeId} {v : Value} {l : List Mb.Wp} (h : w.ownsRow B t 2 v n (wv l)) (hn : l.length = n) : ∃ A c, v = .slice A n c ∧ WL w A n l ∧ n ≤ c ∧ (∀ a, A = some a → B ≤ a.block) := by
 obtain ⟨A, c, rfl, hw, hc⟩ := own_wl h hn
 exact ⟨A, c, rfl, hw, hc, fun a ha => by subst ha; exact (own_far6 h a.block rfl).1⟩
theorem sealed_any (s m : ByteArray) (r : Rc) (A : Option Addr) (c : Nat) (D : Option Addr) (k dc : Nat) (ds : List Int) (w : World) (hw : WL w A r.wraps.length r.wraps) (hn : r.wraps.length ≤ 1099511627776) (hd : IL w D k ds) (hk : k ≤ 8) (hds : ∀ d ∈ ds, 0 ≤ d ∧ d < 8) (hq : 1 ≤ r.seq ∧ r.seq ≤ 1048576) (hs : s.size ≤ 1048576) (hm : m.size ≤ 1048576) (hR : Ky.Rdy w) (hB : Bx.BErrs w) :
  Calls Tryz.prog 37 #[.string s, .string m, .agg (recCs r A c), .slice D k dc] w fun e w' => ∃ A' c', e = .returned (.slice A' k c') ∧ WL w' A' k (wrapsR s m r ds) ∧ k ≤ c' ∧ (∀ a, A' = some a → w.heap.size ≤ a.block) ∧ Gn w w' := by
 obtain ⟨b0, hb0⟩ := nmd (w.heap.size)
 obtain ⟨W0, hW0⟩ := nmd (w.alloc (.cells (recCs r A c) 25))
 obtain ⟨G0, HX⟩ := rec_box hb0 hW0 hw
 have HY : Hid (∀ W, Gn W0 W → RecC0 W b0 r A c) := fun W hW => (HX.out W hW).1
 have hhs := head_size r
 obtain ⟨E, hE⟩ := nmd (Ky.epochB s r.seq)
 obtain ⟨N9, hN9⟩ := nmd (Ky.nonceB r.seq)
 obtain ⟨H9, hH9⟩ := nmd (Mb.headB r)
 rw [hH9] at hhs
 have HE : Hid (∀ W, Gn W0 W → Calls Tryz.prog 40 #[.string s, .int .i64 r.seq] W fun e w' => e = .returned (.string E) ∧ Gn W w') := fun W hW => by rw [← hE]; exact Ky.pEpoch_any s r.seq W (by omega) (by omega) hs (hR.keep (gb_none G0 hW))
 have HNc : Hid (∀ W, Gn W0 W → Calls Tryz.prog 65 #[.int .i64 r.seq] W fun e w' => e = .returned (.string N9) ∧ Gn W w') := fun W hW => by rw [← hN9]; exact Ky.pNonce_any r.seq W
 have HH : Hid (∀ W, Gn W0 W → Calls Tryz.prog 66 #[.agg (recCs r A c)] W fun e w' => e = .returned (.string H9) ∧ Gn W w') := fun W hW => by rw [← hH9]; exact Mb.head_any r A c W (hw.keep (gb_none G0 hW)) hn
 have HO : Hid (∀ (d : Int) W, 0 ≤ d → d < 8 → Gn w W → Calls Tryz.prog 68 #[.string m, .int .i64 d] W fun e w' => e = .returned (.string (Ky.ownB m d)) ∧ Gn W w') := fun d W h0 h8 hW => Ky.pOwn_any m d W (by omega) (by omega) hm (hR.keep hW)
 have HWp : Hid (∀ (d : Int) W, Gn w W → Calls Tryz.prog 67 #[.string (Ky.ownB m d)] W fun e w' => e = .returned (.string (Ky.wrapB (Ky.ownB m d))) ∧ Gn W w') := fun d W hW => Ky.pWrap_any (Ky.ownB m d) W (by rw [Ky.own_size]; decide) (hR.keep hW)
 have HSe : Hid (∀ (d : Int) W, Gn w W → Calls Tryz.prog 69 #[.string (Ky.wrapB (Ky.ownB m d)), .string N9, .string H9, .string E] W fun e w' => e = .returned (.string (sealR s m r d).box) ∧ Gn W w') := fun d W hW => by
  rw [sealR_box, ← hE, ← hN9, ← hH9]; exact Bx.seal_any _ _ _ _ W (by rw [hH9]; omega) (hR.1.keep hW (by simp)) (hB.keep hW)
 have HG := qj G0
 have HD9 := qj hd
 have Hds := qj hds
 have Hk := qj hk
 have Hld : Hid (ds.length = k) := hd.1
 obtain ⟨i0, hi0, hz0, hz1, hz2⟩ := wrap_parts
 have Hi0 := qj hi0
 have Hz0 := qj hz0
 have Hz1 := qj hz1
 have Hz2 := qj hz2
 clear G0 hw hn hd hk hds hq hs hm hR hB HX hhs hE hN9 hH9 hi0 hz0 hz1 hz2
 go_enter Tryz.func37, Tryz.ntmps37
 go_upto_region 1 with fail
 clear hW0 hb0
 refine tw_go ?_
 refine tw_h 0 ?_
 refine tw_h 6 ?_
 apply tw_xe 0 17
 ·intro W f hW e17 K hK; obtain ⟨y0, y1, y2, y3, y4, y5⟩ := HY.out W hW; go_simp; exact kK hK
 apply tw_xee 2 16 0 18
 ·intro W f hW ⟨e16, e18⟩ K hK; go_simp; exact ck (HE.out W hW) hK
 refine tw_h 6 ?_
 apply tw_xe 0 20
 ·intro W f hW e20 K hK; obtain ⟨y0, y1, y2, y3, y4, y5⟩ := HY.out W hW; go_simp; exact kK hK
 apply tw_xe 0 21
 ·intro W f hW e21 K hK; go_simp; exact ck (HNc.out W hW) hK
 apply tw_xh 6
 ·intro W f hW e6 K hK; obtain ⟨y0, y1, y2, y3, y4, y5⟩ := HY.out W hW; go_simp; exact kK hK
 apply tw_xe 0 23
 ·intro W f hW e23 K hK; go_simp; exact ck (HH.out W hW) hK
 refine tw_e 5 19 ?_
 refine tw_e 3 22 ?_
 refine tw_e 2 24 ?_
 refine tw_nil fun W f hW hA => ?_
 have e9 : f 9 = _ := hA 2 (some 9) _ rfl
 rw [e9]
 have e10 : f 10 = _ := hA 1 (some 10) _ rfl
 rw [e10]
 have e11 : f 11 = _ := hA 0 (some 11) _ rfl
 rw [e11]
 clear hA
 have HG1 := qj (gb_none HG.out hW)
 clear hW
 generalize W = W1 at *
 go_wp2_with fail
 go_loopw [12, 27] (fun lv iv wr => ∃ j : Nat, j ≤ k ∧ iv = .int .i64 j ∧ wr.ownsRow w.heap.size 70 2 lv j (wv (wrapsR s m r (ds.take j))) ∧ Gn w wr) (fun _ iv _ => k - (intOf iv).toNat)
 case atStart => exact ⟨0, Nat.zero_le _, rfl, World.ownsRow_nil _ _ _ _, HG1.out⟩
 case round =>
  obtain ⟨j, hj, rfl, hown, hg⟩ := hrel
  have HOw := qj hown
  have Hg := qj hg
  obtain ⟨lA, ln, lc, rfl⟩ := own_sl hown
  by_cases hlt : j < k
  ·have d1 : decide (j < k) = true := decide_eq_true hlt
   have d2 : decide ((j : Int) < (k : Int)) = true := dcT
   have bk : (j : Int) < (k : Int) := by omega
   have t1 : IntKind.i64.wrap ((j : Int) + 1) = ((j + 1 : Nat) : Int) := by rw [IntKind.wrap_i64]; have := Hk.out; omega
   have hIL := HD9.out.keep hg
   obtain ⟨g, oo, rfl, _, _⟩ := hIL.2 (by omega)
   obtain ⟨d, hd⟩ : ∃ d, ds[j]? = some d := ⟨_, List.getElem?_eq_getElem (by rw [Hld.out]; exact hlt)⟩
   have z0 := (il_at hIL hd).2
   have Hdr : Hid (0 ≤ d ∧ d < 8) := Hds.out d (List.mem_of_getElem? hd)
   have hnx := wraps_next (s := s) (m := m) (r := r) hd
   have hse := HSe.out d
   rw [sealR_eta] at hnx
   obtain ⟨bx, hbx⟩ := nmd ((sealR s m r d).box)
   rw [hbx] at hnx hse
   have HNx : Hid (wrapsR s m r (ds.take (j + 1)) = wrapsR s m r (ds.take j) ++ [⟨d, bx⟩]) := hnx
   have HSd := qj hse
   obtain ⟨L0, hL0⟩ := nmd (wrapsR s m r (ds.take j))
   rw [hL0] at HOw HNx
   clear hnx hse hbx hL0
   have Hlt := qj hlt
   clear hIL hd hlt hj hown hg
   go_wp2_with fail
   refine (HO.out d wr Hdr.out.1 Hdr.out.2 Hg.out).mono ?_
   rintro e w2 ⟨rfl, g2⟩
   have Hg2 := qj (gb_none Hg.out g2)
   have HO2 := qj (own_keep HOw.out g2)
   clear g2
   go_wp2_with fail
   refine (HWp.out d w2 Hg2.out).mono ?_
   rintro e w3 ⟨rfl, g3⟩
   have Hg3 := qj (gb_none Hg2.out g3)
   have HO3 := qj (own_keep HO2.out g3)
   clear g3
   go_wp2_with fail
   refine (HSd.out w3 Hg3.out).mono ?_
   rintro e w4 ⟨rfl, g4⟩
   have Hg4 := qj (gb_none Hg3.out g4)
   have HO4 := qj (own_keep HO3.out g4)
   clear g4
   have Hsz : Hid (w.heap.size ≤ (w4.alloc (.cells #[.int .i64 d, .string bx] 70)).heap.size) := (gb_alloc Hg4.out _).size
   have HO5 : Hid ((w4.alloc (.cells #[.int .i64 d, .string bx] 70)).ownsRow w.heap.size 70 2 _ j (wv L0)) := own_keep HO4.out (gb_alloc (gb_refl _ _) _)
   go_wp2_with (at_builtin; go_must (refine wpList_append_own _ rfl (.tmp 35) (.tmp 43) 23 rfl w.heap.size 70 i0 (.agg #[.int .i64 0, .string ⟨#[]⟩]) 2 24 Tryz.underlying23 Hi0.out Hz0.out Hz1.out Hz2.out rfl (by decide) _ j _ rfl HO5.out ⟨w4.heap.size, 0, none⟩ 1 1 [.int .i64 d, .string bx] rfl rfl (World.news_of_block (cs := #[.int .i64 d, .string bx]) (t := 70) (fr := (0, 0)) (heap_alloc_new w4 _)) (wv1_one ⟨d, bx⟩) (by have := Hk.out; have := Hlt.out; simp only [maxLen]; omega) (by have := Hk.out; have := Hlt.out; omega) Hsz.out ?_); intro v6 w6 own6 grow6 _; have Hown6 := qj own6; have Hg6 := qj (gb_step (gb_alloc Hg4.out _) grow6 (fun i e => .inr (own_far6 HO5.out i e).1)); clear own6 grow6)
   go_roundw
   case rel => exact ⟨j + 1, Hlt.out, by go_num, by rw [HNx.out, wv_append]; exact Hown6.out, Hg6.out⟩
   case measure => simp [intOf]; have := Hlt.out; omega
  ·obtain rfl : j = k := by omega
   have d1 : decide (j < j) = false := by simp
   have d2 : decide ((j : Int) < (j : Int)) = false := by simp
   have e9 : ds.take j = ds := List.take_of_length_le (by rw [Hld.out]; exact Nat.le_refl _)
   rw [e9] at hown
   obtain ⟨A3, c3, hv, hwl, hle, hfar⟩ := own_wl_far hown (by rw [wraps_len]; exact Hld.out)
   cases hv
   have HF : Hid _ := And.intro hwl (And.intro hle hfar)
   clear hown hwl hle hfar hlt hj hg e9
   go_wp2_with fail
   go_ret
   exact ⟨_, _, rfl, HF.out.1, HF.out.2.1, HF.out.2.2, Hg.out⟩
end Go.Proofs.YtpcjbjpofcdjeaaGreatDoor.Wc
end
section
namespace Go.Proofs.YtpcjbjpofcdjeaaGreatDoor.Wc
open Go Go.RowKit Mm Td Vw Dt
open Mb Ro Hh We
attribute [local go_sem] Td.upon_value Td.upon_skip Td.upon_enter Td.upon_row Td.look_tmp Td.look_const Td.look_func Td.look_global
def AllR (w : World) : Prop := Ky.Rdy w ∧ Bx.BErrs w ∧ Me.MErrs w ∧ ErrT w
theorem AllR.keep {w w' : World} (h : AllR w) (g : Gn w w') : AllR w' := ⟨h.1.keep g, h.2.1.keep g, h.2.2.1.keep g, h.2.2.2.keep g (by simp)⟩
theorem results_cell_row_tmp {fn : Func} {p u : Tmp} {ty : TypeId} (h : fn.results = #[.cell p ty, .tmp u]) (tmps : Array Value) (w : World) (g : Nat) (t : TypeId) (cs : Array Value) (fr : Nat × Nat) (d : _)
  (hp : tmps.getD p undef = .pointer (some ⟨g, 0, none⟩)) (hg : w.heap[g]? = some (.cells cs t fr))
  (hu : Tryz.prog.underlying ty = some (.struct d)) (hi : (Tryz.prog.info? ty).map (·.size) = some cs.size) :
  (results fn tmps).run Tryz.prog w = .ok (.tuple #[.agg cs, tmps.getD u undef]) w := by
 have hp' : tmps[p]?.getD undef = .pointer (some ⟨g, 0, none⟩) := by simpa using hp
 rw [results_cell_tmp h]
 simp [hp', asAddr, run_loadVar_row w g t ty cs fr (.struct d) hg hu rfl hi]
def logV (n : Nat) (l : List Rc) : Td.Spec := fun W v => ∃ A c, v = .slice A n c ∧ LogL W A n l ∧ n ≤ c
theorem logV_stays {n : Nat} {l : List Rc} : Stays (fun a b => Gn a b) (logV n l) := fun _ _ _ k ⟨A, c, e, h, hc⟩ => ⟨A, c, e, h.keep k, hc⟩
def wrapsV (n : Nat) (l : List Mb.Wp) : Td.Spec := fun W v => ∃ A c, v = .slice A n c ∧ WL W A n l ∧ n ≤ c
theorem wrapsV_stays {n : Nat} {l : List Mb.Wp} : Stays (fun a b => Gn a b) (wrapsV n l) := fun _ _ _ k ⟨A, c, e, h, hc⟩ => ⟨A, c, e, h.keep k, hc⟩
def wrapsF (N n : Nat) (l : List Mb.Wp) : Td.Spec := fun W v => ∃ A c, v = .slice A n c ∧ WL W A n l ∧ n ≤ c ∧ ∀ a, A = some a → N ≤ a.block
theorem wrapsF_stays {N n : Nat} {l : List Mb.Wp} : Stays (fun a b => Gn a b) (wrapsF N n l) := fun _ _ _ k ⟨A, c, e, h, hc⟩ => ⟨A, c, e, h.keep k, hc⟩
def numsV (n : Nat) (L : List Int) : Td.Spec := fun W v => ∃ A c, v = .slice A n c ∧ IL W A n L
theorem numsV_stays {n : Nat} {L : List Int} : Stays (fun a b => Gn a b) (numsV n L) := fun _ _ _ k ⟨A, c, e, h⟩ => ⟨A, c, e, h.keep k⟩
def MadeIs (r : Rc) (k : Int) (w : World) (e : Ending) (w' : World) : Prop := ∃ A c, e = .returned (.tuple #[.agg (recCs r A c), .int .i64 k]) ∧ WL w' A r.wraps.length r.wraps ∧ r.wraps.length ≤ c ∧ Gn w w'
theorem made_is {r : Rc} {k q0 q2 q3 : Int} {q1 q5 : ByteArray} {n : Nat} {L : List Mb.Wp} {w w' : World} {A : Option Addr} {c : Nat} {e : Ending} (h0 : r.seq = q0) (h1 : r.prev = q1) (h2 : r.kind = q2) (h3 : r.dev = q3) (h4 : r.wraps = L) (h5 : r.tag = q5) (hn : L.length = n) (he : e = .returned (.tuple #[.agg #[.int .i64 q0, .string q1, .int .i64 q2, .int .i64 q3, .slice A n c, .string q5], .int .i64 k])) (hw : WL w' A n L) (hc : n ≤ c) (hg : Gn w w') : MadeIs r k w e w' := by
 subst h0 h1 h2 h3 h4 h5 hn
 exact ⟨A, c, he, hw, hc, hg⟩
theorem hung_len (l : List Rc) (kind dev : Int) (s m : ByteArray) : (wrapsR s m (hung l kind dev) (memsN l kind dev)).length = (memsN l kind dev).length := wraps_len _ _ _ _
end Go.Proofs.YtpcjbjpofcdjeaaGreatDoor.Wc
end
