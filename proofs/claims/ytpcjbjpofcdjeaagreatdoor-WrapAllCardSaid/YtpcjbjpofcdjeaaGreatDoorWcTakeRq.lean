/- The document's Take. Written by gen_wc8.py. -/
import Derived.Test.YtpcjbjpofcdjeaaGreatDoorTwq
import Derived.Test.YtpcjbjpofcdjeaaGreatDoorWcSameq
import Derived.Test.YtpcjbjpofcdjeaaGreatDoorWcMem2q
import Derived.Test.YtpcjbjpofcdjeaaGreatDoorWcTq
import Derived.Test.YtpcjbjpofcdjeaaGreatDoorWcSq
import Derived.Deep.CutBlock
set_option linter.unusedVariables false
set_option maxHeartbeats 16000000
set_option maxRecDepth 100000
namespace Go.Proofs.YtpcjbjpofcdjeaaGreatDoor.Wc
open Go Go.RowKit Mm Td Vw Dt
open Mb Ro
attribute [local go_sem] Td.upon_value Td.upon_skip Td.upon_enter Td.upon_row Td.look_tmp Td.look_const Td.look_func Td.look_global
theorem taken_cells {W : World} {b : Nat} {x y z : Value} (h : Row W b 46 #[x, y, z]) : W.cell? ⟨b, 0, none⟩ = some x ∧ W.cell? ⟨b, 1, none⟩ = some y ∧ W.cell? ⟨b, 2, none⟩ = some z ∧ W.frozen? ⟨b, 0, none⟩ = false ∧ W.frozen? ⟨b, 1, none⟩ = false ∧ W.frozen? ⟨b, 2, none⟩ = false :=
 ⟨h.at_ (i := 0) rfl, h.at_ (i := 1) rfl, h.at_ (i := 2) rfl, h.free 0, h.free 1, h.free 2⟩
theorem taken_stored {W : World} {b : Nat} {cs : Array Value} (h : Row W b 46 cs) (h3 : cs.size = 3) (x y z : Value) : Row (((W.setCell ⟨b, 0, none⟩ x).setCell ⟨b, 1, none⟩ y).setCell ⟨b, 2, none⟩ z) b 46 #[x, y, z] := by
 have h2 := ((h.set_ 0 x).set_ 1 y).set_ 2 z
 match cs, h3, h2 with
 | ⟨[_, _, _]⟩, _, h2 => exact h2
theorem taken_grown (W : World) (b : Nat) (x y z : Value) : W.grownBy (((W.setCell ⟨b, 0, none⟩ x).setCell ⟨b, 1, none⟩ y).setCell ⟨b, 2, none⟩ z) (some b) := gb_then (gb_then (gb_set1 _ _ _ _) (gb_set1 _ _ _ _)) (gb_set1 _ _ _ _)
def TakenIs (l : List Rc) (ks : List Mb.Wp) (own : ByteArray) (id : Int) (r : Rc) (w : World) (e : Ending) (w' : World) : Prop :=
 ∃ l' ks' A' c' K' kc', e = .returned (.agg #[.slice A' l'.length c', .slice K' ks'.length kc', .int .i64 (takeE l ks own id r)]) ∧ LogKeys l ks own id r (takeE l ks own id r) l' ks' ∧ LogL w' A' l'.length l' ∧ l'.length ≤ c' ∧ WL w' K' ks'.length ks' ∧ ks'.length ≤ kc' ∧ Gn w w'
theorem taken_no {l : List Rc} {ks : List Mb.Wp} {own : ByteArray} {id : Int} {r : Rc} {w w' : World} {e : Ending} {k : Int} {A K : Option Addr} {n c m kc : Nat} (hE : takeE l ks own id r = k) (h0 : k ≠ 0) (he : e = .returned (.agg #[.slice A n c, .slice K m kc, .int .i64 k])) (hl : LogL w A n l) (hc : n ≤ c) (hk : WL w K m ks) (hm : m ≤ kc) (g : Gn w w') : TakenIs l ks own id r w e w' := by
 obtain rfl := hl.1
 obtain rfl := hk.1
 subst he
 rw [← hE] at h0
 exact ⟨l, ks, A, c, K, kc, by rw [hE], .inl ⟨h0, rfl, rfl⟩, hl.keep g, hc, hk.keep g, hm, g⟩
theorem taken_yes {l l2 : List Rc} {ks ks2 : List Mb.Wp} {own : ByteArray} {id : Int} {r : Rc} {w w' : World} {e : Ending} {A K : Option Addr} {n c m kc : Nat} (hE : takeE l ks own id r = 0) (h2 : l2 = l ++ [r]) (hk2 : (inB (l ++ [r]) ((l.length : Int) + 1) id = false ∧ ks2 = ks) ∨ (inB (l ++ [r]) ((l.length : Int) + 1) id = true ∧ ∃ x, unwrapR own r id = some x ∧ ks2 = ks ++ [⟨(l.length : Int) + 1, x⟩])) (he : e = .returned (.agg #[.slice A n c, .slice K m kc, .int .i64 0])) (hl : LogL w' A n l2) (hc : n ≤ c) (hk : WL w' K m ks2) (hm : m ≤ kc) (g : Gn w w') : TakenIs l ks own id r w e w' := by
 obtain rfl := hl.1
 obtain rfl := hk.1
 subst he
 exact ⟨l2, ks2, A, c, K, kc, by rw [hE], .inr ⟨hE, h2, hk2⟩, hl, hc, hk, hm, g⟩
theorem bad_iff {ks : List Mb.Wp} {l : List Rc} {own : ByteArray} {id : Int} {r : Rc} {n : Nat} {kb xb ib tb : Bool} {k9 : ByteArray} (hn : l.length = n) (h1 : (keyOf ks (n : Int)).getD ⟨#[]⟩ = k9) (h2 : (keyOf ks (n : Int)).isSome = kb) (h3 : (unwrapR own r id).isSome = xb) (h4 : inB (l ++ [r]) ((n : Int) + 1) id = ib) (h5 : tb = true ↔ r.tag ≠ tagR k9 r) : BadTag ks l own id r ↔ (kb && tb || ib && !xb) = true := by
 subst hn h1 h2 h3 h4
 unfold BadTag
 cases hk : keyOf ks (l.length : Int) with
 | none =>
  rw [hk] at h5
  cases hu : unwrapR own r id <;> simp
 | some k =>
  rw [hk] at h5
  simp only [Option.getD_some] at h5
  cases hu : unwrapR own r id <;> cases tb <;> simp_all
theorem seven (kb tb ib xb : Bool) : (kb = true ∧ tb = true) ∨ (kb = true ∧ tb = false ∧ ib = true ∧ xb = true) ∨ (kb = true ∧ tb = false ∧ ib = true ∧ xb = false) ∨ (kb = true ∧ tb = false ∧ ib = false) ∨ (kb = false ∧ ib = true ∧ xb = true) ∨ (kb = false ∧ ib = true ∧ xb = false) ∨ (kb = false ∧ ib = false) := by cases kb <;> cases tb <;> cases ib <;> cases xb <;> simp
theorem lr_past {w w' : World} {N B b : Nat} {v : Value} {l : List Rc} (h : LR w (· < N) B v l) (k : w.grownBy w' (some b)) (h1 : N ≤ b) (h2 : b < B) : LR w' (· < N) B v l := by
 refine h.kept k ?_ (fun g hg e => by have := Option.some.inj e; omega)
 cases hv : v.ownBlock with
 | none => exact .inl rfl
 | some i => exact .inr fun e => by have := (h.far i hv).1; have := Option.some.inj e; omega
theorem ck_past {w w' : World} {B b : Nat} {v : Value} {l : List Mb.Wp} (h : CopiedK w B v l) (k : w.grownBy w' (some b)) (h2 : b < B) : CopiedK w' B v l := by
 refine h.imp id fun h => World.ownsRow.kept h k ?_
 cases hv : v.ownBlock with
 | none => exact .inl rfl
 | some i => exact .inr fun e => by have := (own_far6 h i hv).1; have := Option.some.inj e; omega
theorem key_one {w : World} {x : Mb.Wp} : WL (w.alloc (.cells #[.int .i64 x.d, .string x.box] 31)) (some ⟨w.heap.size, 0, none⟩) 1 [x] := by
 have h : Row (w.alloc (.cells #[.int .i64 x.d, .string x.box] 31)) w.heap.size 31 #[.int .i64 x.d, .string x.box] := Row.new _ _ _
 refine ⟨rfl, fun _ => ⟨w.heap.size, 0, rfl, h.lt, fun i y hy => ?_⟩⟩
 match i, hy with
 | 0, hy =>
  cases hy
  exact ⟨h.at_ (i := 0) rfl, h.at_ (i := 1) rfl⟩
theorem refTake_any (own : ByteArray) (l : List Rc) (ks : List Mb.Wp) (id : Int) (r : Rc) (A K RA : Option Addr) (n c m kc rc : Nat) (w : World) (hl : LogL w A n l) (hn : n ≤ 999999) (hc : n ≤ c) (hb : ∀ x ∈ l, x.wraps.length ≤ 1099511627776) (hk : WL w K m ks) (hm : m ≤ 999999) (hmc : m ≤ kc) (hks : ∀ x ∈ ks, x.box.size ≤ 1048576) (hw : WL w RA r.wraps.length r.wraps) (hrn : r.wraps.length ≤ 1099511627776) (hrc : r.wraps.length ≤ rc) (hbx : ∀ x ∈ r.wraps, x.box.size ≤ 1099511627776) (ho : own.size ≤ 1048576) :
  Calls Tryz.prog 17 #[.slice A n c, .slice K m kc, .string own, .int .i64 id, .agg (recCs r RA rc)] w (TakenIs l ks own id r w) := by
 obtain ⟨a0, ha0⟩ := nmd (w.heap.size)
 obtain ⟨b0, hb0⟩ := nmd (a0 + 1)
 obtain ⟨W0, hW0⟩ := nmd ((w.alloc (.cells (recCs r RA rc) 25)).alloc (.cells #[.slice none 0 0, .slice none 0 0, .int .i64 0] 46))
 have g0 : Gn w W0 := by rw [← hW0]; exact gb_alloc (gb_alloc (gb_refl _ _) _) _
 have hr0 : Row W0 a0 25 (recCs r RA rc) := by rw [← hW0, ← ha0]; exact (Row.new _ _ _).alloc _
 have hr1 : Row W0 b0 46 #[.slice none 0 0, .slice none 0 0, .int .i64 0] := by
  rw [← hW0, ← hb0, ← ha0]
  have h := Row.new (w.alloc (.cells (recCs r RA rc) 25)) 46 #[.slice none 0 0, .slice none 0 0, .int .i64 0]
  rwa [World.size_alloc] at h
 obtain ⟨c0, hc0⟩ := nmd (W0.heap.size)
 obtain ⟨W2, hW2⟩ := nmd (W0.alloc (.cells #[.slice A n c, .slice K m kc, .int .i64 0] 46))
 have g1 : Gn W0 W2 := by rw [← hW2]; exact gb_alloc (gb_refl _ _) _
 have h2 : Row W2 c0 46 #[.slice A n c, .slice K m kc, .int .i64 0] := by rw [← hW2, ← hc0]; exact Row.new _ _ _
 have hz : Row W2 b0 46 #[.slice none 0 0, .slice none 0 0, .int .i64 0] := hr1.kept g1 (by simp)
 have hy : Row W2 a0 25 (recCs r RA rc) := hr0.kept g1 (by simp)
 have hc2 := h2.lt
 have HG2 : Hid (Gn w W2) := gb_none g0 g1
 have Hbc : Hid (w.heap.size ≤ a0 ∧ a0 < b0 ∧ b0 < c0 ∧ w.heap.size ≤ b0 ∧ w.heap.size ≤ c0 ∧ b0 ≠ c0 ∧ a0 ≠ c0 ∧ c0 < W2.heap.size) := by
  have h1 := hr1.lt
  rw [hc0] at h1
  exact ⟨by omega, by omega, h1, by omega, by omega, by omega, by omega, hc2⟩
 have HZ : Hid (∀ W, Gn W2 W → Row W b0 46 #[.slice none 0 0, .slice none 0 0, .int .i64 0]) := fun W hW => hz.kept hW (by simp)
 have HO : Hid (∀ W, Gn W2 W → Row W c0 46 #[.slice A n c, .slice K m kc, .int .i64 0]) := fun W hW => h2.kept hW (by simp)
 have HYr : Hid (∀ W, Gn W2 W → Row W a0 25 (recCs r RA rc)) := fun W hW => hy.kept hW (by simp)
 have HLk : Hid (LogL w A n l ∧ n ≤ c ∧ WL w K m ks ∧ m ≤ kc) := ⟨hl, hc, hk, hmc⟩
 have HWr : Hid (WL w RA r.wraps.length r.wraps ∧ r.wraps.length ≤ rc) := ⟨hw, hrc⟩
 have HY : Hid (∀ W, Gn W2 W → RecC0 W a0 r RA rc ∧ WL W RA r.wraps.length r.wraps) := fun W hW => ⟨rec_row (HYr.out W hW), HWr.out.1.keep (gb_none HG2.out hW)⟩
 have Hn : Hid (n ≤ 999999 ∧ m ≤ 999999) := ⟨hn, hm⟩
 have Hln : Hid (l.length = n) := hl.1
 have HC : Hid (Calls Tryz.prog 31 #[.slice A n c] W2 (BoolIs (ChainR l) W2)) := refCheck_any A n c l W2 (hl.keep HG2.out) hc hb
 have HRs : Hid (∀ W, Gn W2 W → Calls Tryz.prog 50 #[.slice K m kc] W (BoolIs (RiseW ks) W)) := fun W hW => refRising_any K m kc ks W (hk.keep (gb_none HG2.out hW)) (by omega)
 have HC2 : Hid (∀ A' c' W, LogL W A' (n + 1) (l ++ [r]) → n + 1 ≤ c' → Calls Tryz.prog 31 #[.slice A' (n + 1) c'] W (BoolIs (ChainR (l ++ [r])) W)) := fun A' c' W h1 h2 => refCheck_any A' (n + 1) c' (l ++ [r]) W h1 h2 fun x hx => (List.mem_append.1 hx).elim (hb x) fun h => by rw [List.mem_singleton.1 h]; exact hrn
 obtain ⟨k9, hk9⟩ := nmd ((keyOf ks (n : Int)).getD ⟨#[]⟩)
 obtain ⟨kb, hkb⟩ := nmd ((keyOf ks (n : Int)).isSome)
 obtain ⟨x9, hx9⟩ := nmd ((unwrapR own r id).getD ⟨#[]⟩)
 obtain ⟨xb, hxb⟩ := nmd ((unwrapR own r id).isSome)
 obtain ⟨ib, hib⟩ := nmd (inB (l ++ [r]) ((n : Int) + 1) id)
 have HKo : Hid (∀ W, Gn W2 W → Calls Tryz.prog 28 #[.slice K m kc, .int .i64 (n : Int)] W fun x w' => x = .returned (.agg #[.string k9, .bool kb]) ∧ Gn W w') := fun W hW => by rw [← hk9, ← hkb]; exact refKeyOf_any K m kc ks (n : Int) W (hk.keep (gb_none HG2.out hW)) (by omega)
 have HUw : Hid (∀ W, Gn W2 W → Calls Tryz.prog 15 #[.string own, .agg (recCs r RA rc), .int .i64 id] W fun x w' => x = .returned (.agg #[.string x9, .bool xb]) ∧ Gn W w') := fun W hW => by rw [← hx9, ← hxb]; exact refUnwrap_any own r RA rc id W (hw.keep (gb_none HG2.out hW)) hrn hbx ho
 have HIn : Hid (∀ A' c' W, LogL W A' (n + 1) (l ++ [r]) → Calls Tryz.prog 29 #[.slice A' (n + 1) c', .int .i64 ((n : Int) + 1), .int .i64 id] W fun x w' => x = .returned (.bool ib) ∧ W = w') := fun A' c' W h1 => by rw [← hib]; exact refIn_any A' (n + 1) c' (l ++ [r]) ((n : Int) + 1) id W h1 (by omega)
 have hk20 : k9.size ≤ 1048576 := by
  rw [← hk9]
  cases hk : keyOf ks (n : Int) with
  | none => exact Nat.zero_le _
  | some k =>
   obtain ⟨x, hx, _, rfl⟩ := keyOf_mem hk
   exact hks x hx
 obtain ⟨T9, hT9⟩ := nmd (tagR k9 r)
 have HTgA : Hid (∀ W, Gn W2 W → Calls Tryz.prog 21 #[.string k9, .agg (recCs r RA rc)] W fun e w' => e = .returned (.string T9) ∧ Gn W w') := fun W hW => by rw [← hT9]; exact refTag_any k9 r RA rc W (hw.keep (gb_none HG2.out hW)) hrn hk20
 obtain ⟨tb, htb⟩ : ∃ tb : Bool, (tb = true ↔ r.tag ≠ T9) := ⟨decide (r.tag ≠ T9), by simp⟩
 have HBad : Hid (BadTag ks l own id r ↔ (kb && tb || ib && !xb) = true) := bad_iff hl.1 hk9 hkb hxb hib (by rw [hT9]; exact htb)
 have HTb : Hid ((r.tag.toList == T9.toList) = !tb ∧ (r.tag.toList != T9.toList) = tb) := by
  by_cases h : r.tag = T9
  ·have h1 : tb = false := by cases tb with | false => rfl | true => exact absurd h (htb.1 rfl)
   have h2 := str_eq h
   rw [h1]; exact ⟨h2, by rw [bne, h2]; rfl⟩
  ·have h1 : tb = true := htb.2 h
   have h2 := str_ne h
   rw [h1]; exact ⟨h2, by rw [bne, h2]; rfl⟩
 have HIb : Hid (inB (l ++ [r]) ((l.length : Int) + 1) id = ib) := by show _ = _; rw [← hib, hl.1]
 have HXs : Hid (xb = true → unwrapR own r id = some x9) := fun h => by
  rw [← hx9]
  cases hu : unwrapR own r id with
  | none => rw [hu] at hxb; subst hxb; cases h
  | some y => rfl
 have HSm : Hid (∀ (x : Rc) XA xc W, x ∈ l → WL W XA x.wraps.length x.wraps → WL W RA r.wraps.length r.wraps → Calls Tryz.prog 18 #[.agg (recCs x XA xc), .agg (recCs r RA rc)] W (BoolIs (x = r) W)) := fun x XA xc W hx h1 h2 => refSame_any x r XA RA xc rc W h1 h2 (hb x hx)
 have HW2 := qj hW2
 clear hl hn hc hb hk hm hmc hks hw hrn hrc hbx ho g0 hr0 hr1 g1 h2 hz hy hc2 hW2 hk9 hkb hx9 hxb hib hk20 hT9 htb
 go_enter Tryz.func17, Tryz.ntmps17
 go_upto_region 1 with fail
 clear hW0 ha0 hb0
 go_upto_region 2 with fail
 rw [HW2.out]
 clear HW2 hc0
 go_wp2_with fail
 refine HC.out.mono ?_
 intro e w3 hh
 by_cases hck : ChainR l
 ·obtain ⟨rfl, g3⟩ := hh.yes hck
  have Hck := qj hck
  have HR3 := qj (HRs.out w3 g3)
  have Hg3 := qj g3
  clear hh g3 hck HC HRs
  go_wp2_with fail
  refine HR3.out.mono ?_
  intro e w4 hh
  by_cases hri : RiseW ks
  ·obtain ⟨rfl, g4⟩ := hh.yes hri
   have HCk : Hid (ChainR l ∧ RiseW ks) := ⟨Hck.out, hri⟩
   have HG4 := qj (gb_none Hg3.out g4)
   clear hh g4 hri Hck Hg3 HR3
   go_wp2_with fail
   go_loopw [13] (fun i wr => ∃ k : Nat, k ≤ n ∧ i = .int .i64 k ∧ Hid (¬ (1 ≤ r.seq ∧ r.seq ≤ (k : Int))) ∧ Gn W2 wr) (fun i _ => n - (intOf i).toNat)
   case atStart => exact ⟨0, Nat.zero_le _, rfl, (fun h => by omega), HG4.out⟩
   case round =>
    obtain ⟨k, hk, rfl, HK, hg⟩ := hrel
    by_cases hlt : k < n
    ·have d1 : decide (k < n) = true := decide_eq_true hlt
     have d2 : decide ((k : Int) < (n : Int)) = true := dcT
     have HBk : Hid ((k : Int) < (n : Int)) := by show _ < _; omega
     obtain ⟨g, o, rfl, hgl, _⟩ := HLk.out.1.2 (by omega)
     obtain ⟨x, hx⟩ : ∃ x, l[k]? = some x := ⟨_, List.getElem?_eq_getElem (by rw [Hln.out]; exact hlt)⟩
     have hsq : x.seq = (k : Int) + 1 := by have := good_seq HCk.out.1.2 hx; omega
     obtain ⟨XA, xc, hX⟩ := rc_kept (log_rec HLk.out.1 hx).2 hgl
     have HXr : Hid (∀ W, Gn w W → (W.cell? ⟨g, o + k * 6, none⟩ = some (.int .i64 x.seq) ∧ W.cell? ⟨g, o + k * 6 + 1, none⟩ = some (.string x.prev) ∧ W.cell? ⟨g, o + k * 6 + 2, none⟩ = some (.int .i64 x.kind) ∧ W.cell? ⟨g, o + k * 6 + 3, none⟩ = some (.int .i64 x.dev) ∧ W.cell? ⟨g, o + k * 6 + 4, none⟩ = some (.slice XA x.wraps.length xc) ∧ W.cell? ⟨g, o + k * 6 + 5, none⟩ = some (.string x.tag)) ∧ WL W XA x.wraps.length x.wraps) := hX
     have Hx := qj hx
     have Hlt := qj hlt
     have Hgr := qj hg
     have Hgw : Hid (Gn w wr) := gb_none HG2.out hg
     clear hX hx hgl hk hlt hg
     go_upto_region 9 with fail
     clear d1 d2
     by_cases heq : x.seq = r.seq
     ·have t1 : (x.seq == r.seq) = true := by rw [heq]; exact beq_self_eq_true _
      have HE1 : Hid (r.seq = (k : Int) + 1) := by show _ = _; omega
      clear heq hsq
      refine tw_go ?_
      refine tw_h 0 ?_
      refine tw_h 13 ?_
      apply tw_xee 1 39 0 40
      ·intro W f hW ⟨e39, e40⟩ K hK; have bk := HBk.out; go_simp; exact kK hK
      refine tw_e 0 41 ?_
      apply tw_xe 0 42
      ·intro W f hW e42 K hK; obtain ⟨⟨z0, _⟩, _⟩ := HXr.out W (gb_none Hgw.out hW); go_simp; exact kK hK
      refine tw_h 9 ?_
      apply tw_xe 0 44
      ·intro W f hW e44 K hK; obtain ⟨⟨y0, y1, y2, y3, y4, y5⟩, _⟩ := HY.out W (gb_none Hgr.out hW); go_simp; exact kK hK
      refine tw_ee 2 43 0 45 ?_
      refine tw_nil fun W f hW hA => ?_
      have e46 : f 46 = _ := hA 0 (some 46) _ rfl
      rw [e46]
      clear hA
      have hgW := gb_none Hgr.out hW
      obtain ⟨W6, hW6⟩ := nmd (W.setCell ⟨c0, 2, none⟩ (.int .i64 11))
      have hO := HO.out W (hgW)
      have HO6 : Hid (Row W6 c0 46 #[.slice (some ⟨g, o, none⟩) n c, .slice K m kc, .int .i64 11]) := by rw [← hW6]; exact hO.set_ 2 _
      have HZ6 : Hid (Row W6 b0 46 #[.slice none 0 0, .slice none 0 0, .int .i64 0]) := by rw [← hW6]; exact (HZ.out W (hgW)).far (a := ⟨c0, 2, none⟩) Hbc.out.2.2.2.2.2.1 _
      have HG6 : Hid (Gn w W6) := by rw [← hW6]; exact gb_new (gb_none HG2.out (hgW)) (gb_set1 _ _ _ _) Hbc.out.2.2.2.2.1
      obtain ⟨_, _, u2, _, _, p2⟩ := taken_cells hO
      have HR6a : Hid (Row W6 a0 25 (recCs r RA rc)) := by rw [← hW6]; exact (HYr.out W hgW).far (a := ⟨c0, 2, none⟩) Hbc.out.2.2.2.2.2.2.1 _
      clear hO
      go_upto_region 11 with fail
      clear hW6 u2 p2
      have HR6 := HR6a
      obtain ⟨b, hbq⟩ : ∃ b : Bool, (b = true ↔ x = r) := by
       by_cases h : x = r
       ·exact ⟨true, by simp [h]⟩
       ·exact ⟨false, by simp [h]⟩
      have HQ : Hid (∀ V, Gn W6 V → Calls Tryz.prog 18 #[.agg (recCs x XA xc), .agg (recCs r RA rc)] V fun e w' => e = .returned (.bool b) ∧ Gn V w') := fun V hV => (HSm.out x XA xc V (List.mem_of_getElem? Hx.out) (HXr.out V (gb_none HG6.out hV)).2 (HWr.out.1.keep (gb_none HG6.out hV))).mono fun e w' h => by
       by_cases hxy : x = r
       ·rw [hbq.2 hxy]; exact h.yes hxy
       ·rw [show b = false from by cases b with | false => rfl | true => exact absurd (hbq.1 rfl) hxy]; exact h.no hxy
      have Hb := qj hbq
      clear hbq t1 hgW hW
      refine tw_go ?_
      refine tw_h 0 ?_
      refine tw_h 13 ?_
      apply tw_xee 1 48 0 49
      ·intro W f hW ⟨e48, e49⟩ K hK; have bk := HBk.out; go_simp; exact kK hK
      apply tw_xe 0 50
      ·intro W f hW e50 K hK; obtain ⟨⟨z0, z1, z2, z3, z4, z5⟩, _⟩ := HXr.out W (gb_none HG6.out hW); go_simp; exact kK hK
      apply tw_xh 9
      ·intro W f hW e9 K hK; obtain ⟨y0, y1, y2, y3, y4, y5⟩ := rec_row (HR6.out.kept hW (by simp)); go_simp; exact kK hK
      apply tw_xee 1 51 0 52
      ·intro W f hW ⟨e51, e52⟩ K hK; go_simp; exact ck (HQ.out W hW) hK
      refine tw_nil fun W f hW hA => ?_
      have e53 : f 53 = _ := hA 0 (some 53) _ rfl
      rw [e53]
      clear hA
      have HO7 := qj (HO6.out.kept hW (by simp))
      have HZ7 := qj (HZ6.out.kept hW (by simp))
      have HG7 := qj (gb_none HG6.out hW)
      have Hs1 : Hid (1 ≤ r.seq ∧ r.seq ≤ l.length) := by have := Hlt.out; have := HE1.out; have := Hln.out; exact ⟨by omega, by omega⟩
      have Hs2 : Hid (l[(r.seq - 1).toNat]? = some x) := by
       have h1 : (r.seq - 1).toNat = k := by have := HE1.out; omega
       show _ = _
       rw [h1]; exact Hx.out
      clear hW
      cases b with
      | true =>
       have Hxr : Hid (x = r) := by first | exact Hb.out.1 rfl | exact Hb.out
       clear Hb
       obtain ⟨W8, hW8⟩ := nmd (W.setCell ⟨c0, 2, none⟩ (.int .i64 10))
       have hO := HO7.out
       have HO8 : Hid (Row W8 c0 46 #[.slice (some ⟨g, o, none⟩) n c, .slice K m kc, .int .i64 10]) := by rw [← hW8]; exact hO.set_ 2 _
       have HZ8 : Hid (Row W8 b0 46 #[.slice none 0 0, .slice none 0 0, .int .i64 0]) := by rw [← hW8]; exact (HZ7.out).far (a := ⟨c0, 2, none⟩) Hbc.out.2.2.2.2.2.1 _
       have HG8 : Hid (Gn w W8) := by rw [← hW8]; exact gb_new (HG7.out) (gb_set1 _ _ _ _) Hbc.out.2.2.2.2.1
       obtain ⟨_, _, u2, _, _, p2⟩ := taken_cells hO
       clear hO
       go_upto_region 13 with fail
       clear hW8 u2 p2
       obtain ⟨v0, v1, v2, _, _, _⟩ := taken_cells HO8.out
       obtain ⟨z0, z1, z2, q0, q1, q2⟩ := taken_cells HZ8.out
       go_wp2_with fail
       have HL := HLk.out
       exact bodyPost_ret (results_cell_row rfl _ _ b0 46 _ (0, 0) _ rfl (taken_stored HZ8.out rfl _ _ _) Tryz.underlying46 rfl (by kernel_rfl)) rfl (taken_no (take_same HCk.out Hs1.out (by rw [Hs2.out, Hxr.out])) (by decide) rfl HL.1 HL.2.1 HL.2.2.1 HL.2.2.2 (gb_new HG8.out (taken_grown _ _ _ _ _) Hbc.out.2.2.2.1))
      | false =>
       have Hxr : Hid (x ≠ r) := fun e => by have := Hb.out.2 e; cases this
       clear Hb
       obtain ⟨v0, v1, v2, _, _, _⟩ := taken_cells HO7.out
       obtain ⟨z0, z1, z2, q0, q1, q2⟩ := taken_cells HZ7.out
       go_wp2_with fail
       have HL := HLk.out
       exact bodyPost_ret (results_cell_row rfl _ _ b0 46 _ (0, 0) _ rfl (taken_stored HZ7.out rfl _ _ _) Tryz.underlying46 rfl (by kernel_rfl)) rfl (taken_no (take_fork HCk.out Hs1.out (by rw [Hs2.out]; exact fun e => Hxr.out (Option.some.inj e))) (by decide) rfl HL.1 HL.2.1 HL.2.2.1 HL.2.2.2 (gb_new HG7.out (taken_grown _ _ _ _ _) Hbc.out.2.2.2.1))
     ·have t1 : (x.seq == r.seq) = false := by rw [beq_eq_false_iff_ne]; exact heq
      have HN : Hid (¬ (1 ≤ r.seq ∧ r.seq ≤ ((k + 1 : Nat) : Int))) := fun h => HK.out ⟨h.1, by omega⟩
      clear heq hsq
      refine tw_go ?_
      refine tw_h 0 ?_
      refine tw_h 13 ?_
      apply tw_xee 1 39 0 40
      ·intro W f hW ⟨e39, e40⟩ K hK; have bk := HBk.out; go_simp; exact kK hK
      refine tw_e 0 41 ?_
      apply tw_xe 0 42
      ·intro W f hW e42 K hK; obtain ⟨⟨z0, _⟩, _⟩ := HXr.out W (gb_none Hgw.out hW); go_simp; exact kK hK
      refine tw_h 9 ?_
      apply tw_xe 0 44
      ·intro W f hW e44 K hK; obtain ⟨⟨y0, y1, y2, y3, y4, y5⟩, _⟩ := HY.out W (gb_none Hgr.out hW); go_simp; exact kK hK
      refine tw_ee 2 43 0 45 ?_
      refine tw_nil fun W f hW hA => ?_
      have e46 : f 46 = _ := hA 0 (some 46) _ rfl
      rw [e46]
      clear hA
      have Hw := qj (gb_none Hgr.out hW)
      clear hW
      have b8 := Hn.out.1
      have b9 := Hlt.out
      go_wp2_with fail
      go_roundw
      case rel => exact ⟨k + 1, by have := Hlt.out; omega, by go_num, HN, Hw.out⟩
      case measure => simp [intOf]; have := Hlt.out; omega
    ·have hkn : n = k := by omega
     subst hkn
     have d1 : decide (n < n) = false := by simp
     have d2 : decide ((n : Int) < (n : Int)) = false := by simp
     clear hlt hk
     go_upto_region 14 with fail
     clear d1 d2
     obtain ⟨⟨y0, y1, y2, y3, y4, y5⟩, _⟩ := HY.out wr hg
     have tw : IntKind.i64.wrap ((n : Int) + 1) = (n : Int) + 1 := by rw [IntKind.wrap_i64]; have := Hn.out; omega
     have Hs1 : Hid (¬ (1 ≤ r.seq ∧ r.seq ≤ l.length)) := by rw [Hln.out]; exact HK.out
     have Hgr := qj hg
     by_cases hgt : (n : Int) + 1 < r.seq
     ·have v1 : decide ((n : Int) + 1 < r.seq) = true := decide_eq_true hgt
      have HE : Hid (takeE l ks own id r = 6) := take_early HCk.out (by rw [Hln.out]; exact hgt)
      clear hgt hg
      obtain ⟨W6, hW6⟩ := nmd (wr.setCell ⟨c0, 2, none⟩ (.int .i64 6))
      have hO := HO.out wr (Hgr.out)
      have HO6 : Hid (Row W6 c0 46 #[.slice A n c, .slice K m kc, .int .i64 6]) := by rw [← hW6]; exact hO.set_ 2 _
      have HZ6 : Hid (Row W6 b0 46 #[.slice none 0 0, .slice none 0 0, .int .i64 0]) := by rw [← hW6]; exact (HZ.out wr (Hgr.out)).far (a := ⟨c0, 2, none⟩) Hbc.out.2.2.2.2.2.1 _
      have HG6 : Hid (Gn w W6) := by rw [← hW6]; exact gb_new (gb_none HG2.out (Hgr.out)) (gb_set1 _ _ _ _) Hbc.out.2.2.2.2.1
      obtain ⟨_, _, u2, _, _, p2⟩ := taken_cells hO
      clear hO
      go_upto_region 16 with fail
      clear hW6 u2 p2 y0 y1 y2 y3 y4 y5 tw v1
      obtain ⟨v0, v1, v2, _, _, _⟩ := taken_cells HO6.out
      obtain ⟨z0, z1, z2, q0, q1, q2⟩ := taken_cells HZ6.out
      go_wp2_with fail
      have HL := HLk.out
      exact bodyPost_ret (results_cell_row rfl _ _ b0 46 _ (0, 0) _ rfl (taken_stored HZ6.out rfl _ _ _) Tryz.underlying46 rfl (by kernel_rfl)) rfl (taken_no HE.out (by decide) rfl HL.1 HL.2.1 HL.2.2.1 HL.2.2.2 (gb_new HG6.out (taken_grown _ _ _ _ _) Hbc.out.2.2.2.1))
     ·have v1 : decide ((n : Int) + 1 < r.seq) = false := decide_eq_false hgt
      have Hs2 : Hid (¬ (l.length : Int) + 1 < r.seq) := by rw [Hln.out]; exact hgt
      clear hgt hg
      go_upto_region 17 with fail
      clear y0 y1 y2 y3 y4 y5 v1
      obtain ⟨v6, w6, hr6, hcp6, hg6⟩ := run_copyN (w0 := w) (w := wr.alloc (.cells #[] 25)) 22 (some ⟨wr.heap.size, 0, none⟩) A n c l HLk.out.1 (gb_alloc (gb_none HG2.out Hgr.out) _) (by have := Hn.out; omega) HLk.out.2.1
      obtain ⟨B7, hB7⟩ := nmd ((wr.alloc (.cells #[] 25)).heap.size)
      rw [hB7] at hcp6
      have HB7 : Hid (c0 < B7 ∧ w.heap.size ≤ B7 ∧ B7 ≤ w6.heap.size ∧ b0 < B7) := by
       have h1 := (HO.out wr Hgr.out).lt
       have h2 := Hbc.out
       have h3 := hg6.size
       rw [hB7] at h3
       rw [World.size_alloc] at hB7
       exact ⟨by omega, by omega, h3, by omega⟩
      have HgA : Hid ((wr.alloc (.cells #[] 25)).grownBy w6 none) := hg6
      have HB7e := qj hB7
      have Hr6 := qj hr6
      have HcW : Hid (wr.grownBy (wr.alloc (.cells #[] 25)) none) := gb_alloc (gb_refl _ _) _
      have Hg6 : Hid (Gn W2 w6) := gb_none (gb_none Hgr.out HcW.out) hg6
      obtain ⟨X6, m6, k6, rfl⟩ := hcp6.slice
      have Hcp6 := qj hcp6
      clear hr6 hcp6 hg6 hB7
      go_upto_region 18 with (at_builtin; go_must (refine Lib.wpList_append_run _ rfl (.tmp 63) (.tmp 64) 22 22 rfl _ _ rfl rfl _ _ Hr6.out ?_))
      have hrc7 : RecC0 (w6.alloc (.cells (recCs r RA rc) 25)) w6.heap.size r RA rc := rec_row (Row.new _ _ _)
      obtain ⟨v8, w8, hr8, hlr8, hu8⟩ := run_moreN (w := w6.alloc (.cells (recCs r RA rc) 25)) 22 w.heap.size B7 (.slice X6 m6 k6) l (Hcp6.out.keep (gb_alloc (gb_refl _ _) _)) HB7.out.2.1 (by have := Hn.out; rw [Hln.out]; omega) (by have := HB7.out.2.2.1; have := (gb_alloc (gb_refl w6 none) (.cells (recCs r RA rc) 25)).size; omega) w6.heap.size 1 r RA rc hrc7 (HWr.out.1.keep (gb_none (gb_none HG2.out Hg6.out) (gb_alloc (gb_refl _ _) _))) HWr.out.2 (wl_lt HWr.out.1)
      have hg8 : Gn W2 w8 := gb_none (gb_none Hgr.out HcW.out) (hu8 (wr.alloc (.cells #[] 25)) (Nat.le_of_eq HB7e.out) (gb_alloc HgA.out _))
      obtain ⟨A8, c8, rfl, hlog8, hcap8⟩ := hlr8.log
      rw [List.length_append, Hln.out] at hr8 hlr8 hlog8 hcap8
      have Hr8 := qj hr8
      have HL8a : Hid (LR w8 (· < w.heap.size) B7 (.slice A8 (n + 1) c8) (l ++ [r])) := hlr8
      have Hg8 := qj hg8
      have HC3a := qj (HC2.out A8 c8 w8 hlog8 hcap8)
      obtain ⟨⟨y0, y1, y2, y3, y4, y5⟩, _⟩ := HY.out w6 Hg6.out
      clear hrc7 hr8 hlr8 hu8 hg8 hlog8 hcap8 Hcp6 HgA HcW Hr6 HC2
      go_upto_region 19 with (at_builtin; go_must (refine Lib.wpList_append_run _ rfl (.tmp 66) (.tmp 68) 22 22 rfl _ _ rfl rfl _ _ Hr8.out ?_))
      clear y0 y1 y2 y3 y4 y5 Hr8
      go_wp2_with fail
      refine HC3a.out.mono ?_
      intro e w9 hh
      by_cases hck2 : ChainR (l ++ [r])
      ·obtain ⟨rfl, g9⟩ := hh.yes hck2
       have HC3 := qj hck2
       have Hg9 := qj (gb_none Hg8.out g9)
       have H89 := qj g9
       clear hh g9 hck2 HC3a
       go_wp2_with fail
       refine (HKo.out w9 Hg9.out).mono ?_
       rintro e wa ⟨rfl, ga⟩
       obtain ⟨c5, hc5⟩ := nmd (wa.heap.size)
       obtain ⟨X5, hX5⟩ := nmd (wa.alloc (.cells #[.string k9, .bool kb] 41))
       have HK5 : Hid (Row X5 c5 41 #[.string k9, .bool kb]) := by rw [← hX5, ← hc5]; exact Row.new _ _ _
       have HgX5 : Hid (Gn w9 X5) := by rw [← hX5]; exact gb_alloc ga _
       have HX5 := qj hX5
       clear ga hX5
       go_upto_region 23 with fail
       rw [HX5.out]
       clear hc5 HX5
       obtain ⟨⟨y0, y1, y2, y3, y4, y5⟩, _⟩ := HY.out X5 (gb_none Hg9.out HgX5.out)
       go_wp2_with fail
       clear y0 y1 y2 y3 y4 y5
       refine (HUw.out X5 (gb_none Hg9.out HgX5.out)).mono ?_
       rintro e wb ⟨rfl, gq⟩
       obtain ⟨c6, hc6⟩ := nmd (wb.heap.size)
       obtain ⟨X6', hX6⟩ := nmd (wb.alloc (.cells #[.string x9, .bool xb] 41))
       have hgX6 : Gn X5 X6' := by rw [← hX6]; exact gb_alloc gq _
       have HXb : Hid (∀ W, Gn X6' W → Row W c6 41 #[.string x9, .bool xb]) := fun W hW => by
        have h : Row X6' c6 41 #[.string x9, .bool xb] := by rw [← hX6, ← hc6]; exact Row.new _ _ _
        exact h.kept hW (by simp)
       have HKb : Hid (∀ W, Gn X6' W → Row W c5 41 #[.string k9, .bool kb]) := fun W hW => (HK5.out.kept hgX6 (by simp)).kept hW (by simp)
       have Hgx : Hid (Gn W2 X6') := gb_none (gb_none Hg9.out HgX5.out) hgX6
       have HL8 : Hid (∀ W, Gn X6' W → LR W (· < w.heap.size) B7 (.slice A8 (n + 1) c8) (l ++ [r])) := fun W hW => HL8a.out.keep (gb_none (gb_none (gb_none H89.out HgX5.out) hgX6) hW)
       have H56 : Hid (c0 < B7 ∧ c6 ≠ c0 ∧ b0 < B7) := ⟨HB7.out.1, by
        have h1 := (HO.out X5 (gb_none Hg9.out HgX5.out)).lt
        have h2 := gq.size
        intro e
        rw [← hc6] at e
        omega, HB7.out.2.2.2⟩
       have HTg := qj fun W (hW : Gn X6' W) => HTgA.out W (gb_none Hgx.out hW)
       have HX6 := qj hX6
       clear gq hgX6 HTgA HKo HUw HK5 HgX5 H89 hX6
       go_upto_region 24 with fail
       rw [HX6.out]
       clear hc6 HX6
       obtain ⟨Al, cl, el, hll, _⟩ := (HL8.out X6' (gb_refl _ _)).log
       rw [List.length_append, Hln.out] at el hll
       cases el
       have HI9 := qj (HIn.out A8 c8 X6' hll)
       clear hll HIn
       go_wp2_with fail
       refine HI9.out.mono ?_
       rintro e _ ⟨rfl, rfl⟩
       go_upto_region 25 with fail
       clear tw HI9
       rcases seven kb tb ib xb with ⟨rfl, rfl⟩ | ⟨rfl, rfl, rfl, rfl⟩ | ⟨rfl, rfl, rfl, rfl⟩ | ⟨rfl, rfl, rfl⟩ | ⟨rfl, rfl, rfl⟩ | ⟨rfl, rfl, rfl⟩ | ⟨rfl, rfl⟩
       all_goals
        obtain ⟨s1, s2⟩ := HTb.out
        refine tw_go ?_
        refine tw_h 15 ?_
        apply tw_xe 0 87
        ·intro W f hW e87 K hK; have k0 := (HKb.out W hW).at_ (i := 0) rfl; have k1 := (HKb.out W hW).at_ (i := 1) rfl; go_simp; exact kK hK
        refine tw_e 0 88 ?_
        first | refine tw_no 0 ?_ | refine tw_gh 0 89 9 ?_
        first | refine tw_no 1 ?_ | (apply tw_is; · intro W f hW hE h0 K hK; have e90 := hE.of 0 90; have e89 := hE.of 1 89; clear hE h0; refine yes_g e89 ?_; obtain ⟨⟨y0, y1, y2, y3, y4, y5⟩, _⟩ := HY.out W (gb_none Hgx.out hW); go_simp; exact kK hK)
        first | refine tw_no 2 ?_ | refine tw_gh 2 89 15 ?_
        first | refine tw_no 3 ?_ | (apply tw_is; · intro W f hW hE h0 K hK; have e92 := hE.of 0 92; have e89 := hE.of 3 89; clear hE h0; refine yes_g e89 ?_; have k0 := (HKb.out W hW).at_ (i := 0) rfl; have k1 := (HKb.out W hW).at_ (i := 1) rfl; go_simp; exact kK hK)
        first | refine tw_no 4 ?_ | (apply tw_is; · intro W f hW hE h0 K hK; have e9 := h0.of 9; have e89 := hE.of 4 89; clear hE h0; refine yes_g e89 ?_; obtain ⟨⟨y0, y1, y2, y3, y4, y5⟩, _⟩ := HY.out W (gb_none Hgx.out hW); go_simp; exact kK hK)
        first | refine tw_no 5 ?_ | (apply tw_is; · intro W f hW hE h0 K hK; have e93 := hE.of 1 93; have e94 := hE.of 0 94; have e89 := hE.of 5 89; clear hE h0; refine yes_g e89 ?_; go_simp; refine (HTg.out W hW).mono ?_; rintro e w1' ⟨rfl, g'⟩; exact ⟨_, rfl, hK _ _ g' rfl⟩)
        first | refine tw_no 6 ?_ | (apply tw_is; · intro W f hW hE h0 K hK; have e91 := hE.of 4 91; have e95 := hE.of 0 95; have e89 := hE.of 6 89; clear hE h0; refine yes_g e89 ?_; go_simp; exact kK hK)
        refine tw_ee 7 89 0 96 ?_
        refine tw_e 0 97 ?_
        first | refine tw_no 0 ?_ | refine tw_gh 0 98 17 ?_
        first | refine tw_no 1 ?_ | refine tw_ge 1 98 0 99 ?_
        first | refine tw_no 0 ?_ | refine tw_gh 0 100 16 ?_
        first | refine tw_no 1 ?_ | (apply tw_is; · intro W f hW hE h0 K hK; have e101 := hE.of 0 101; have e100 := hE.of 1 100; clear hE h0; refine yes_g e100 ?_; have x0 := (HXb.out W hW).at_ (i := 0) rfl; have x1 := (HXb.out W hW).at_ (i := 1) rfl; go_simp; exact kK hK)
        first | refine tw_no 2 ?_ | refine tw_ge 2 100 0 102 ?_
        first | refine tw_no 5 ?_ | (apply tw_is; · intro W f hW hE h0 K hK; have e100 := hE.of 3 100; have e103 := hE.of 0 103; have e98 := hE.of 5 98; clear hE h0; refine yes_g e98 ?_; go_simp; exact kK hK)
        refine tw_ee 6 98 0 104 ?_
        refine tw_nil fun W f hW hA => ?_
        have e105 : f 105 = _ := hA 0 (some 105) _ rfl
        rw [e105]
        clear hA
        clear s1 s2
        first
        |
         have hbad : BadTag ks l own id r := HBad.out.2 (by simp)
         have HE : Hid (takeE l ks own id r = 9) := take_tag HCk.out HC3.out hbad
         clear hbad
         have hgW := gb_none Hgx.out hW
         obtain ⟨W6, hW6⟩ := nmd (W.setCell ⟨c0, 2, none⟩ (.int .i64 9))
         have hO := HO.out W (hgW)
         have HO6 : Hid (Row W6 c0 46 #[.slice A n c, .slice K m kc, .int .i64 9]) := by rw [← hW6]; exact hO.set_ 2 _
         have HZ6 : Hid (Row W6 b0 46 #[.slice none 0 0, .slice none 0 0, .int .i64 0]) := by rw [← hW6]; exact (HZ.out W (hgW)).far (a := ⟨c0, 2, none⟩) Hbc.out.2.2.2.2.2.1 _
         have HG6 : Hid (Gn w W6) := by rw [← hW6]; exact gb_new (gb_none HG2.out (hgW)) (gb_set1 _ _ _ _) Hbc.out.2.2.2.2.1
         obtain ⟨_, _, u2, _, _, p2⟩ := taken_cells hO
         clear hO
         go_upto_region 27 with fail
         clear hW6 u2 p2
         obtain ⟨v0, v1, v2, _, _, _⟩ := taken_cells HO6.out
         obtain ⟨z0, z1, z2, q0, q1, q2⟩ := taken_cells HZ6.out
         go_wp2_with fail
         have HL := HLk.out
         exact bodyPost_ret (results_cell_row rfl _ _ b0 46 _ (0, 0) _ rfl (taken_stored HZ6.out rfl _ _ _) Tryz.underlying46 rfl (by kernel_rfl)) rfl (taken_no HE.out (by decide) rfl HL.1 HL.2.1 HL.2.2.1 HL.2.2.2 (gb_new HG6.out (taken_grown _ _ _ _ _) Hbc.out.2.2.2.1))
         done
        |
         have hnb : ¬ BadTag ks l own id r := fun h => absurd (HBad.out.1 h) (by first | decide | simp)
         have HE : Hid (takeE l ks own id r = 0) := take_ok HCk.out HC3.out hnb
         have hi : inB (l ++ [r]) ((l.length : Int) + 1) id = true := HIb.out
         clear hnb hi
         have hgW := gb_none Hgx.out hW
         obtain ⟨W7, hW7⟩ := nmd (W.setCell ⟨c0, 0, none⟩ (.slice A8 (n + 1) c8))
         have hO := HO.out W hgW
         obtain ⟨u0, _, _, p0, _, _⟩ := taken_cells hO
         have HO7 : Hid (Row W7 c0 46 #[.slice A8 (n + 1) c8, .slice K m kc, .int .i64 0]) := by rw [← hW7]; exact hO.set_ 0 _
         have HZ7 : Hid (Row W7 b0 46 #[.slice none 0 0, .slice none 0 0, .int .i64 0]) := by rw [← hW7]; exact (HZ.out W hgW).far (a := ⟨c0, 0, none⟩) Hbc.out.2.2.2.2.2.1 _
         have HG7 : Hid (Gn w W7) := by rw [← hW7]; exact gb_new (gb_none HG2.out hgW) (gb_set1 _ _ _ _) Hbc.out.2.2.2.2.1
         have HL7 : Hid (LR W7 (· < w.heap.size) B7 (.slice A8 (n + 1) c8) (l ++ [r])) := by rw [← hW7]; exact lr_past (HL8.out W hW) (gb_set1 _ _ _ _) Hbc.out.2.2.2.2.1 H56.out.1
         have HX7 : Hid (Row W7 c6 41 #[.string x9, .bool true]) := by rw [← hW7]; exact (HXb.out W hW).far (a := ⟨c0, 0, none⟩) H56.out.2.1 _
         clear hO hgW hW
         go_upto_region 29 with fail
         clear hW7 u0 p0
         obtain ⟨v5, w5, hr5, hc5, hu5⟩ := run_keys (w := W7.alloc (.cells #[] 31)) 26 (W7.alloc (.cells #[] 31)).heap.size (.slice (some ⟨W7.heap.size, 0, none⟩) 0 0) [] (.inl ⟨rfl, _, rfl⟩) (by decide) (Nat.le_refl _) K m kc ks (HLk.out.2.2.1.keep (gb_alloc HG7.out _)) (by have := Hn.out.2; omega) HLk.out.2.2.2
         rw [List.nil_append] at hc5
         obtain ⟨B5, hB5⟩ := nmd ((W7.alloc (.cells #[] 31)).heap.size)
         have hg5 := hu5 _ (Nat.le_refl _) (gb_refl _ _)
         rw [hB5] at hc5
         have hB7' : c0 < B5 := by rw [← hB5, World.size_alloc]; exact Nat.lt_succ_of_lt HO7.out.lt
         have hB57 : B5 ≤ w5.heap.size := by rw [← hB5]; exact hg5.size
         have hgA : Gn W7 w5 := gb_none (gb_alloc (gb_refl _ _) _) hg5
         obtain ⟨A5, m5, k5, rfl⟩ := hc5.slice
         have Hr5 := qj hr5
         go_upto_region 31 with (at_builtin; go_must (refine Lib.wpList_append_run _ rfl (.tmp 111) (.tmp 112) 26 26 rfl _ _ rfl rfl _ _ Hr5.out ?_))
         obtain ⟨v4, w4, hr4, hc4, hu4⟩ := run_keys (w := w5.alloc (.cells #[.int .i64 ((n : Int) + 1), .string x9] 31)) 26 B5 (.slice A5 m5 k5) ks (hc5.keep (gb_alloc (gb_refl _ _) _)) (by rw [HLk.out.2.2.1.1]; have := Hn.out.2; omega) (Nat.le_trans hB57 (gb_alloc (gb_refl w5 none) _).size) (some ⟨w5.heap.size, 0, none⟩) 1 1 [⟨(n : Int) + 1, x9⟩] (key_one (x := ⟨(n : Int) + 1, x9⟩)) (by decide) (Nat.le_refl _)
         have hg4 : Gn W7 w4 := gb_none (gb_alloc (gb_refl _ _) _) (hu4 (W7.alloc (.cells #[] 31)) (Nat.le_of_eq hB5) (gb_alloc hg5 _))
         have Hr4 := qj hr4
         have e0 := (HX7.out.kept hgA (by simp)).at_ (i := 0) rfl
         have hO4 := HO7.out.kept hg4 (by simp)
         obtain ⟨_, u1, _, _, p1, _⟩ := taken_cells hO4
         have tw : IntKind.i64.wrap ((n : Int) + 1) = (n : Int) + 1 := by rw [IntKind.wrap_i64]; have := Hn.out; omega
         obtain ⟨A4, k4, rfl, _, _⟩ := hc4.wl
         obtain ⟨m4, hm4⟩ := nmd ((ks ++ [(⟨(n : Int) + 1, x9⟩ : Mb.Wp)]).length)
         rw [hm4] at hr4 hc4 Hr4
         obtain ⟨W8, hW8⟩ := nmd (w4.setCell ⟨c0, 1, none⟩ (.slice A4 m4 k4))
         have HO8 : Hid (Row W8 c0 46 #[.slice A8 (n + 1) c8, .slice A4 m4 k4, .int .i64 0]) := by rw [← hW8]; exact hO4.set_ 1 _
         have HZ8 : Hid (Row W8 b0 46 #[.slice none 0 0, .slice none 0 0, .int .i64 0]) := by rw [← hW8]; exact (HZ7.out.kept hg4 (by simp)).far (a := ⟨c0, 1, none⟩) Hbc.out.2.2.2.2.2.1 _
         have HG8 : Hid (Gn w W8) := by rw [← hW8]; exact gb_new (gb_none HG7.out hg4) (gb_set1 _ _ _ _) Hbc.out.2.2.2.2.1
         have HL9 : Hid (LR W8 (· < w.heap.size) B7 (.slice A8 (n + 1) c8) (l ++ [r])) := by rw [← hW8]; exact lr_past (HL7.out.keep hg4) (gb_set1 _ _ _ _) Hbc.out.2.2.2.2.1 H56.out.1
         have HK9 : Hid (CopiedK W8 B5 (.slice A4 m4 k4) (ks ++ [⟨(n : Int) + 1, x9⟩])) := by rw [← hW8]; exact ck_past hc4 (gb_set1 _ _ _ _) hB7'
         have Hm4 := qj hm4
         have HB5 : Hid (c0 < B5 ∧ b0 < B5) := ⟨hB7', by have := Hbc.out; omega⟩
         clear hr5 hc5 hu5 hB5 hg5 hB7' hB57 hgA hr4 hc4 hu4 hg4 hO4 hm4
         go_upto_region 32 with (at_builtin; go_must (refine Lib.wpList_append_run _ rfl (.tmp 114) (.tmp 120) 26 26 rfl _ _ rfl rfl _ _ Hr4.out ?_))
         clear hW8 u1 p1 e0 tw Hr4 Hr5
         obtain ⟨v0, v1, v2, _, _, _⟩ := taken_cells HO8.out
         obtain ⟨z0, z1, z2, q0, q1, q2⟩ := taken_cells HZ8.out
         go_wp2_with fail
         have hgz := taken_grown W8 b0 (.slice A8 (n + 1) c8) (.slice A4 m4 k4) (.int .i64 0)
         obtain ⟨Al, cl, el, hll, hcl⟩ := (lr_past HL9.out hgz Hbc.out.2.2.2.1 H56.out.2.2).log
         obtain ⟨Ak, ck, ek, hkl, hkc⟩ := (ck_past HK9.out hgz HB5.out.2).wl
         rw [List.length_append, Hln.out] at el hll hcl
         rw [Hm4.out] at ek hkl hkc
         cases el
         cases ek
         exact bodyPost_ret (results_cell_row rfl _ _ b0 46 _ (0, 0) _ rfl (taken_stored HZ8.out rfl _ _ _) Tryz.underlying46 rfl (by kernel_rfl)) rfl (taken_yes HE.out rfl (.inr ⟨HIb.out, x9, (by first | exact HXs.out rfl | exact HXs.out trivial | exact HXs.out), by rw [Hln.out]⟩) rfl hll hcl hkl hkc (gb_new HG8.out hgz Hbc.out.2.2.2.1))
         done
        |
         have hnb : ¬ BadTag ks l own id r := fun h => absurd (HBad.out.1 h) (by simp)
         have HE : Hid (takeE l ks own id r = 0) := take_ok HCk.out HC3.out hnb
         clear hnb
         have hgW := gb_none Hgx.out hW
         obtain ⟨W7, hW7⟩ := nmd (W.setCell ⟨c0, 0, none⟩ (.slice A8 (n + 1) c8))
         have hO := HO.out W hgW
         obtain ⟨u0, _, _, p0, _, _⟩ := taken_cells hO
         have HO7 : Hid (Row W7 c0 46 #[.slice A8 (n + 1) c8, .slice K m kc, .int .i64 0]) := by rw [← hW7]; exact hO.set_ 0 _
         have HZ7 : Hid (Row W7 b0 46 #[.slice none 0 0, .slice none 0 0, .int .i64 0]) := by rw [← hW7]; exact (HZ.out W hgW).far (a := ⟨c0, 0, none⟩) Hbc.out.2.2.2.2.2.1 _
         have HG7 : Hid (Gn w W7) := by rw [← hW7]; exact gb_new (gb_none HG2.out hgW) (gb_set1 _ _ _ _) Hbc.out.2.2.2.2.1
         have HL7 : Hid (LR W7 (· < w.heap.size) B7 (.slice A8 (n + 1) c8) (l ++ [r])) := by rw [← hW7]; exact lr_past (HL8.out W hW) (gb_set1 _ _ _ _) Hbc.out.2.2.2.2.1 H56.out.1
         clear hO hgW hW
         go_upto_region 29 with fail
         clear hW7 u0 p0
         obtain ⟨v0, v1, v2, _, _, _⟩ := taken_cells HO7.out
         obtain ⟨z0, z1, z2, q0, q1, q2⟩ := taken_cells HZ7.out
         go_wp2_with fail
         have hgz := taken_grown W7 b0 (.slice A8 (n + 1) c8) (.slice K m kc) (.int .i64 0)
         obtain ⟨Al, cl, el, hll, hcl⟩ := (lr_past HL7.out hgz Hbc.out.2.2.2.1 H56.out.2.2).log
         rw [List.length_append, Hln.out] at el hll hcl
         cases el
         have hgn := gb_new HG7.out hgz Hbc.out.2.2.2.1
         exact bodyPost_ret (results_cell_row rfl _ _ b0 46 _ (0, 0) _ rfl (taken_stored HZ7.out rfl _ _ _) Tryz.underlying46 rfl (by kernel_rfl)) rfl (taken_yes HE.out rfl (.inl ⟨HIb.out, rfl⟩) rfl hll hcl (HLk.out.2.2.1.keep hgn) HLk.out.2.2.2 hgn)
         done
      ·obtain ⟨rfl, g9⟩ := hh.no hck2
       have HE : Hid (takeE l ks own id r = 11) := take_other HCk.out Hs1.out (by have := Hs2.out; omega) hck2
       have Hg9 := qj (gb_none Hg8.out g9)
       clear hh g9 hck2 HC3a tw
       obtain ⟨W6, hW6⟩ := nmd (w9.setCell ⟨c0, 2, none⟩ (.int .i64 11))
       have hO := HO.out w9 (Hg9.out)
       have HO6 : Hid (Row W6 c0 46 #[.slice A n c, .slice K m kc, .int .i64 11]) := by rw [← hW6]; exact hO.set_ 2 _
       have HZ6 : Hid (Row W6 b0 46 #[.slice none 0 0, .slice none 0 0, .int .i64 0]) := by rw [← hW6]; exact (HZ.out w9 (Hg9.out)).far (a := ⟨c0, 2, none⟩) Hbc.out.2.2.2.2.2.1 _
       have HG6 : Hid (Gn w W6) := by rw [← hW6]; exact gb_new (gb_none HG2.out (Hg9.out)) (gb_set1 _ _ _ _) Hbc.out.2.2.2.2.1
       obtain ⟨_, _, u2, _, _, p2⟩ := taken_cells hO
       clear hO
       go_upto_region 21 with fail
       clear hW6 u2 p2
       obtain ⟨v0, v1, v2, _, _, _⟩ := taken_cells HO6.out
       obtain ⟨z0, z1, z2, q0, q1, q2⟩ := taken_cells HZ6.out
       go_wp2_with fail
       have HL := HLk.out
       exact bodyPost_ret (results_cell_row rfl _ _ b0 46 _ (0, 0) _ rfl (taken_stored HZ6.out rfl _ _ _) Tryz.underlying46 rfl (by kernel_rfl)) rfl (taken_no HE.out (by decide) rfl HL.1 HL.2.1 HL.2.2.1 HL.2.2.2 (gb_new HG6.out (taken_grown _ _ _ _ _) Hbc.out.2.2.2.1))
  ·obtain ⟨rfl, g4⟩ := hh.no hri
   have HE : Hid (takeE l ks own id r = 1) := take_arg fun h => hri h.2
   have HG4 := qj (gb_none Hg3.out g4)
   clear hh g4 hri Hck Hg3 HR3
   obtain ⟨W6, hW6⟩ := nmd (w4.setCell ⟨c0, 2, none⟩ (.int .i64 1))
   have hO := HO.out w4 (HG4.out)
   have HO6 : Hid (Row W6 c0 46 #[.slice A n c, .slice K m kc, .int .i64 1]) := by rw [← hW6]; exact hO.set_ 2 _
   have HZ6 : Hid (Row W6 b0 46 #[.slice none 0 0, .slice none 0 0, .int .i64 0]) := by rw [← hW6]; exact (HZ.out w4 (HG4.out)).far (a := ⟨c0, 2, none⟩) Hbc.out.2.2.2.2.2.1 _
   have HG6 : Hid (Gn w W6) := by rw [← hW6]; exact gb_new (gb_none HG2.out (HG4.out)) (gb_set1 _ _ _ _) Hbc.out.2.2.2.2.1
   obtain ⟨_, _, u2, _, _, p2⟩ := taken_cells hO
   clear hO
   go_upto_region 5 with fail
   clear hW6 u2 p2
   obtain ⟨v0, v1, v2, _, _, _⟩ := taken_cells HO6.out
   obtain ⟨z0, z1, z2, q0, q1, q2⟩ := taken_cells HZ6.out
   go_wp2_with fail
   have HL := HLk.out
   exact bodyPost_ret (results_cell_row rfl _ _ b0 46 _ (0, 0) _ rfl (taken_stored HZ6.out rfl _ _ _) Tryz.underlying46 rfl (by kernel_rfl)) rfl (taken_no HE.out (by decide) rfl HL.1 HL.2.1 HL.2.2.1 HL.2.2.2 (gb_new HG6.out (taken_grown _ _ _ _ _) Hbc.out.2.2.2.1))
 ·obtain ⟨rfl, g3⟩ := hh.no hck
  have HE : Hid (takeE l ks own id r = 1) := take_arg fun h => hck h.1
  have HG4 := qj g3
  clear hh g3 hck HC HRs
  obtain ⟨W6, hW6⟩ := nmd (w3.setCell ⟨c0, 2, none⟩ (.int .i64 1))
  have hO := HO.out w3 (HG4.out)
  have HO6 : Hid (Row W6 c0 46 #[.slice A n c, .slice K m kc, .int .i64 1]) := by rw [← hW6]; exact hO.set_ 2 _
  have HZ6 : Hid (Row W6 b0 46 #[.slice none 0 0, .slice none 0 0, .int .i64 0]) := by rw [← hW6]; exact (HZ.out w3 (HG4.out)).far (a := ⟨c0, 2, none⟩) Hbc.out.2.2.2.2.2.1 _
  have HG6 : Hid (Gn w W6) := by rw [← hW6]; exact gb_new (gb_none HG2.out (HG4.out)) (gb_set1 _ _ _ _) Hbc.out.2.2.2.2.1
  obtain ⟨_, _, u2, _, _, p2⟩ := taken_cells hO
  clear hO
  go_upto_region 5 with fail
  clear hW6 u2 p2
  obtain ⟨v0, v1, v2, _, _, _⟩ := taken_cells HO6.out
  obtain ⟨z0, z1, z2, q0, q1, q2⟩ := taken_cells HZ6.out
  go_wp2_with fail
  have HL := HLk.out
  exact bodyPost_ret (results_cell_row rfl _ _ b0 46 _ (0, 0) _ rfl (taken_stored HZ6.out rfl _ _ _) Tryz.underlying46 rfl (by kernel_rfl)) rfl (taken_no HE.out (by decide) rfl HL.1 HL.2.1 HL.2.2.1 HL.2.2.2 (gb_new HG6.out (taken_grown _ _ _ _ _) Hbc.out.2.2.2.1))
end Go.Proofs.YtpcjbjpofcdjeaaGreatDoor.Wc
