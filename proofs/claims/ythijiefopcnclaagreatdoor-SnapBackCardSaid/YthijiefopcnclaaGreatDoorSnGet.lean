/- Package snap: all, stateOf, Get. Written by gen_snget.py. -/
import Derived.Test.YthijiefopcnclaaGreatDoorSnOf
import Derived.Test.YthijiefopcnclaaGreatDoorSnPut
import Derived.Test.YthijiefopcnclaaGreatDoorFtMake
import Derived.Test.YthijiefopcnclaaGreatDoorDtJoin
set_option linter.unusedVariables false
namespace Go.Proofs.YthijiefopcnclaaGreatDoor.Dt
open Go Go.RowKit Go.Proofs.YthijiefopcnclaaGreatDoor.Mm Go.Proofs.YthijiefopcnclaaGreatDoor.Td Go.Proofs.YthijiefopcnclaaGreatDoor.Vw

theorem own_keep {w w' : World} {B : Nat} {e : TypeId} {s : Nat} {v : Value} {n : Nat} {xs : List Value} (h : w.ownsRow B e s v n xs) (g : w.grownBy w' none) : w'.ownsRow B e s v n xs := World.ownsRow.kept h g (by cases hv : Value.ownBlock _ with | none => exact .inl rfl | some q => exact .inr (by simp))
/-- What all says of a list. -/
def allRunIs (l : List Wr) (w : World) (e : Ending) (w' : World) : Prop := ((∃ rs A c, allOf runOfW l = some rs ∧ e = .returned (.tuple #[.slice A rs.length c, .nilIface]) ∧ RL w' A rs.length rs) ∨ (allOf runOfW l = none ∧ ∃ v d f, e = .returned (.tuple #[.slice none 0 0, v]) ∧ Sp.ErrV d v f ∧ f ≠ 0 ∧ d ≤ 3)) ∧ w.grownBy w' none
set_option maxHeartbeats 8000000 in
set_option maxRecDepth 100000 in
theorem allRun_any (l : List Wr) (A : Option Addr) (c : Nat) (p : ByteArray) (w : World) (h : HL w 0 (.slice A l.length c) l) (hn : l.length ≤ 65536) : Calls Tryz.prog 44 #[.slice A l.length c, .string p, .func (.func 45) #[] #[]] w (allRunIs l w) := by
  obtain ⟨n, hl⟩ : ∃ n, l.length = n := ⟨_, rfl⟩
  obtain ⟨i0, hi0, hz0, hz1, hz2⟩ := info_parts run_inf
  have Hi0 := Lib.hid hi0
  have Hz0 := Lib.hid hz0
  have Hz1 := Lib.hid hz1
  have Hz2 := Lib.hid hz2
  rw [hl] at h hn ⊢
  have HH := Lib.hid h
  have Hl := Lib.hid hl
  have Hn := Lib.hid hn
  clear h hn hl hi0 hz0 hz1 hz2
  go_enter Tryz.func44, Tryz.ntmps44
  go_wp2_with fail
  go_loopw [8, 15] (fun ov iv wr => ∃ (k : Nat) (rs : List Rn) (u : Value), u = ov ∧ k ≤ n ∧ iv = .int .i64 k ∧ Hid (allOf runOfW (l.take k) = some rs) ∧ Hid (wr.ownsRow w.heap.size 50 3 ov k (rv rs)) ∧ w.grownBy wr none) (fun _ iv _ => n - (intOf iv).toNat)
  case atStart => exact ⟨0, [], _, rfl, Nat.zero_le _, rfl, rfl, World.ownsRow_nil _ _ _ _, gb_refl _ _⟩
  case round =>
    obtain ⟨k, rs, u, rfl, hk, rfl, Hr, Ho, hg⟩ := hrel
    by_cases hlt : k < n
    · have d1 : decide (k < n) = true := decide_eq_true hlt
      have d2 : decide ((k : Int) < (n : Int)) = true := decide_eq_true (by omega)
      obtain ⟨x, hx⟩ : ∃ x, l[k]? = some x := ⟨_, List.getElem?_eq_getElem (by rw [Hl.out]; exact hlt)⟩
      obtain ⟨g1, o1, A2, c2, rfl, _, hgs, y0, y1, y2, y3, hxl⟩ := (HH.out.kept hg).item hx
      have HW : Hid (∀ W, wr.grownBy W none → Calls Tryz.prog 45 #[.agg #[.int .i64 x.k, .int .i64 x.n, .string x.s, .slice A2 x.l.length c2]] W (RunOfIs x W)) := fun W hW => runOf_any x A2 c2 W (hxl.kept hW)
      have Hx := Lib.hid hx
      have Hg := Lib.hid hg
      have Hlt := Lib.hid hlt
      have t1 : IntKind.i64.wrap ((k : Int) + 1) = ((k + 1 : Nat) : Int) := by rw [IntKind.wrap_i64]; have := Hn.out; omega
      clear hx hxl hg hlt hk hgs
      go_wp2_with fail
      refine (HW.out _ (gb_alloc (gb_refl _ _) _)).mono ?_
      rintro e w2 ⟨hres, g2⟩
      have Hg2 := Lib.hid (gb_none Hg.out (gb_none (gb_alloc (gb_refl wr none) _) g2))
      have Ho2 := Lib.hid (own_keep (own_keep Ho.out (gb_alloc (gb_refl wr none) _)) g2)
      clear g2 y0 y1 y2 y3 HW Ho
      rcases hres with ⟨r, hr, rfl⟩ | ⟨hno, v, d, f, rfl, hE, hf, hd⟩
      · have Hnx : Hid (allOf runOfW (l.take (k + 1)) = some (rs ++ [r])) := by
          show _ = _
          rw [List.take_add_one, Hx.out]
          exact allOf_snoc Hr.out hr
        obtain ⟨b2, hb2⟩ : ∃ b2, w2.heap.size = b2 := ⟨_, rfl⟩
        obtain ⟨W3, hW3⟩ : ∃ W3, w2.alloc (.cells #[.int .i64 r.d, .int .i64 r.f, .int .i64 r.t] 50) = W3 := ⟨_, rfl⟩
        have hR3 : Row W3 b2 50 #[.int .i64 r.d, .int .i64 r.f, .int .i64 r.t] := by rw [← hW3, ← hb2]; exact Row.new _ _ _
        have Hg3 : Hid (w.grownBy W3 none) := by rw [← hW3]; exact gb_alloc Hg2.out _
        have Ho3 : Hid (W3.ownsRow w.heap.size 50 3 u k (rv rs)) := by rw [← hW3]; exact own_keep Ho2.out (gb_alloc (gb_refl _ _) _)
        have HR3 := Lib.hid hR3
        clear hR3 hr
        go_upto_region 8 with fail
        clear hW3 hb2
        have z0 : W3.cell? ⟨b2, 0, none⟩ = some (.int .i64 r.d) := HR3.out.at_ (i := 0) rfl; have z1 : W3.cell? ⟨b2, 1, none⟩ = some (.int .i64 r.f) := HR3.out.at_ (i := 1) rfl; have z2 : W3.cell? ⟨b2, 2, none⟩ = some (.int .i64 r.t) := HR3.out.at_ (i := 2) rfl
        have Ho4 : Hid ((W3.alloc (.cells #[.int .i64 r.d, .int .i64 r.f, .int .i64 r.t] 50)).ownsRow w.heap.size 50 3 u k (rv rs)) := own_keep Ho3.out (gb_alloc (gb_refl _ _) _)
        have hgs : w.heap.size ≤ W3.heap.size := Hg3.out.size
        go_wp2_with (at_builtin; go_must (refine wpList_append_own _ rfl (.tmp 33) (.tmp 35) 22 rfl w.heap.size 50 i0 (.agg #[.int .i64 0, .int .i64 0, .int .i64 0]) 3 24 Tryz.underlying22 Hi0.out Hz0.out Hz1.out Hz2.out rfl (by decide) _ k _ rfl Ho4.out ⟨W3.heap.size, 0, none⟩ 1 1 [.int .i64 r.d, .int .i64 r.f, .int .i64 r.t] rfl rfl (World.news_of_block (cs := #[.int .i64 r.d, .int .i64 r.f, .int .i64 r.t]) (t := 50) (fr := (0, 0)) (heap_alloc_new W3 _)) (ints3' _ _ _) (by have := Hlt.out; have := Hn.out; simp only [maxLen]; omega) (by have := Hlt.out; have := Hn.out; omega) (by rw [World.size_alloc]; omega) ?_); intro v8 w8 own8 hgrow _; have Hown8 := Lib.hid own8; have Hg8 := Lib.hid (gb_step (gb_alloc Hg3.out _) hgrow (fun i e => .inr (Ho4.out.lt i e).1)); clear own8 hgrow)
        go_roundw
        case rel =>
          refine ⟨k + 1, rs ++ [r], _, rfl, by have := Hlt.out; omega, rfl, Hnx, ?_, Hg8.out⟩
          rw [rv_append, show rv [r] = [.int .i64 r.d, .int .i64 r.f, .int .i64 r.t] from rfl]
          exact Hown8.out
        case measure => simp [intOf]; have := Hlt.out; omega
      · have HN : Hid (allOf runOfW l = none) := allOf_bad (List.mem_of_getElem? Hx.out) hno
        obtain ⟨t0, p0, rfl⟩ := hE.iface
        have HE := Lib.hid hE
        have Hf := Lib.hid hf
        have Hd := Lib.hid hd
        clear hE hf hd hno t1
        go_wp2_with fail
        refine bodyPost_ret (results_tmp2 rfl _ _ _) rfl ?_
        exact ⟨.inr ⟨HN.out, _, d + 1, f, rfl, .item d _ _ _ f HE.out, Hf.out, by have := Hd.out; omega⟩, gb_alloc Hg2.out _⟩
    · have hkn : k = n := by omega
      subst hkn
      have d1 : decide (k < k) = false := by simp
      have d2 : decide ((k : Int) < (k : Int)) = false := by simp
      have Hr2 : Hid (allOf runOfW l = some rs) := by
        have h := Hr.out
        rwa [List.take_of_length_le (by rw [Hl.out]; exact Nat.le_refl _)] at h
      have hrl : rs.length = k := by rw [allOf_len Hr2.out, Hl.out]
      obtain ⟨A5, c5, rfl, hR, _⟩ := own_rl Ho.out hrl
      have HR := Lib.hid hR
      have Hrl := Lib.hid hrl
      have Hg := Lib.hid hg
      clear hlt hk hR hrl hg Hr
      go_wp2_with fail
      refine bodyPost_ret (results_tmp2 rfl _ _ _) rfl ?_
      refine ⟨.inl ⟨rs, A5, c5, Hr2.out, ?_, ?_⟩, Hg.out⟩
      · show Ending.returned (.tuple #[.slice A5 k c5, .nilIface]) = _
        rw [Hrl.out]
      · rw [Hrl.out]; exact HR.out
/-- What all says of a list. -/
def allFactIs (l : List Wr) (w : World) (e : Ending) (w' : World) : Prop := ((∃ rs A c, allOf factOfW l = some rs ∧ e = .returned (.tuple #[.slice A rs.length c, .nilIface]) ∧ FL w' A rs.length rs) ∨ (allOf factOfW l = none ∧ ∃ v d f, e = .returned (.tuple #[.slice none 0 0, v]) ∧ Sp.ErrV d v f ∧ f ≠ 0 ∧ d ≤ 3)) ∧ w.grownBy w' none
set_option maxHeartbeats 8000000 in
set_option maxRecDepth 100000 in
theorem allFact_any (l : List Wr) (A : Option Addr) (c : Nat) (p : ByteArray) (w : World) (h : HL w 0 (.slice A l.length c) l) (hn : l.length ≤ 65536) : Calls Tryz.prog 46 #[.slice A l.length c, .string p, .func (.func 47) #[] #[]] w (allFactIs l w) := by
  obtain ⟨n, hl⟩ : ∃ n, l.length = n := ⟨_, rfl⟩
  obtain ⟨i0, hi0, hz0, hz1, hz2⟩ := info_parts6 fact_inf
  have Hi0 := Lib.hid hi0
  have Hz0 := Lib.hid hz0
  have Hz1 := Lib.hid hz1
  have Hz2 := Lib.hid hz2
  rw [hl] at h hn ⊢
  have HH := Lib.hid h
  have Hl := Lib.hid hl
  have Hn := Lib.hid hn
  clear h hn hl hi0 hz0 hz1 hz2
  go_enter Tryz.func46, Tryz.ntmps46
  go_wp2_with fail
  go_loopw [8, 15] (fun ov iv wr => ∃ (k : Nat) (rs : List Fc) (u : Value), u = ov ∧ k ≤ n ∧ iv = .int .i64 k ∧ Hid (allOf factOfW (l.take k) = some rs) ∧ Hid (wr.ownsRow w.heap.size 46 6 ov k (fv rs)) ∧ w.grownBy wr none) (fun _ iv _ => n - (intOf iv).toNat)
  case atStart => exact ⟨0, [], _, rfl, Nat.zero_le _, rfl, rfl, World.ownsRow_nil _ _ _ _, gb_refl _ _⟩
  case round =>
    obtain ⟨k, rs, u, rfl, hk, rfl, Hr, Ho, hg⟩ := hrel
    by_cases hlt : k < n
    · have d1 : decide (k < n) = true := decide_eq_true hlt
      have d2 : decide ((k : Int) < (n : Int)) = true := decide_eq_true (by omega)
      obtain ⟨x, hx⟩ : ∃ x, l[k]? = some x := ⟨_, List.getElem?_eq_getElem (by rw [Hl.out]; exact hlt)⟩
      obtain ⟨g1, o1, A2, c2, rfl, _, hgs, y0, y1, y2, y3, hxl⟩ := (HH.out.kept hg).item hx
      have HW : Hid (∀ W, wr.grownBy W none → Calls Tryz.prog 47 #[.agg #[.int .i64 x.k, .int .i64 x.n, .string x.s, .slice A2 x.l.length c2]] W (FactOfIs x W)) := fun W hW => factOf_any x A2 c2 W (hxl.kept hW)
      have Hx := Lib.hid hx
      have Hg := Lib.hid hg
      have Hlt := Lib.hid hlt
      have t1 : IntKind.i64.wrap ((k : Int) + 1) = ((k + 1 : Nat) : Int) := by rw [IntKind.wrap_i64]; have := Hn.out; omega
      clear hx hxl hg hlt hk hgs
      go_wp2_with fail
      refine (HW.out _ (gb_alloc (gb_refl _ _) _)).mono ?_
      rintro e w2 ⟨hres, g2⟩
      have Hg2 := Lib.hid (gb_none Hg.out (gb_none (gb_alloc (gb_refl wr none) _) g2))
      have Ho2 := Lib.hid (own_keep (own_keep Ho.out (gb_alloc (gb_refl wr none) _)) g2)
      clear g2 y0 y1 y2 y3 HW Ho
      rcases hres with ⟨r, hr, rfl⟩ | ⟨hno, v, d, f, rfl, hE, hf, hd⟩
      · have Hnx : Hid (allOf factOfW (l.take (k + 1)) = some (rs ++ [r])) := by
          show _ = _
          rw [List.take_add_one, Hx.out]
          exact allOf_snoc Hr.out hr
        obtain ⟨b2, hb2⟩ : ∃ b2, w2.heap.size = b2 := ⟨_, rfl⟩
        obtain ⟨W3, hW3⟩ : ∃ W3, w2.alloc (.cells #[.int .i64 r.d, .int .i64 r.n, .string r.key, .int .i64 r.kind, .string r.item, .int .i64 r.v] 46) = W3 := ⟨_, rfl⟩
        have hR3 : Row W3 b2 46 #[.int .i64 r.d, .int .i64 r.n, .string r.key, .int .i64 r.kind, .string r.item, .int .i64 r.v] := by rw [← hW3, ← hb2]; exact Row.new _ _ _
        have Hg3 : Hid (w.grownBy W3 none) := by rw [← hW3]; exact gb_alloc Hg2.out _
        have Ho3 : Hid (W3.ownsRow w.heap.size 46 6 u k (fv rs)) := by rw [← hW3]; exact own_keep Ho2.out (gb_alloc (gb_refl _ _) _)
        have HR3 := Lib.hid hR3
        clear hR3 hr
        go_upto_region 8 with fail
        clear hW3 hb2
        have z0 : W3.cell? ⟨b2, 0, none⟩ = some (.int .i64 r.d) := HR3.out.at_ (i := 0) rfl; have z1 : W3.cell? ⟨b2, 1, none⟩ = some (.int .i64 r.n) := HR3.out.at_ (i := 1) rfl; have z2 : W3.cell? ⟨b2, 2, none⟩ = some (.string r.key) := HR3.out.at_ (i := 2) rfl; have z3 : W3.cell? ⟨b2, 3, none⟩ = some (.int .i64 r.kind) := HR3.out.at_ (i := 3) rfl; have z4 : W3.cell? ⟨b2, 4, none⟩ = some (.string r.item) := HR3.out.at_ (i := 4) rfl; have z5 : W3.cell? ⟨b2, 5, none⟩ = some (.int .i64 r.v) := HR3.out.at_ (i := 5) rfl
        have Ho4 : Hid ((W3.alloc (.cells #[.int .i64 r.d, .int .i64 r.n, .string r.key, .int .i64 r.kind, .string r.item, .int .i64 r.v] 46)).ownsRow w.heap.size 46 6 u k (fv rs)) := own_keep Ho3.out (gb_alloc (gb_refl _ _) _)
        have hgs : w.heap.size ≤ W3.heap.size := Hg3.out.size
        go_wp2_with (at_builtin; go_must (refine wpList_append_own _ rfl (.tmp 33) (.tmp 35) 23 rfl w.heap.size 46 i0 (.agg #[.int .i64 0, .int .i64 0, .string ⟨#[]⟩, .int .i64 0, .string ⟨#[]⟩, .int .i64 0]) 6 64 Tryz.underlying23 Hi0.out Hz0.out Hz1.out Hz2.out rfl (by decide) _ k _ rfl Ho4.out ⟨W3.heap.size, 0, none⟩ 1 1 [.int .i64 r.d, .int .i64 r.n, .string r.key, .int .i64 r.kind, .string r.item, .int .i64 r.v] rfl rfl (World.news_of_block (cs := #[.int .i64 r.d, .int .i64 r.n, .string r.key, .int .i64 r.kind, .string r.item, .int .i64 r.v]) (t := 46) (fr := (0, 0)) (heap_alloc_new W3 _)) (fv1_one r) (by have := Hlt.out; have := Hn.out; simp only [maxLen]; omega) (by have := Hlt.out; have := Hn.out; omega) (by rw [World.size_alloc]; omega) ?_); intro v8 w8 own8 hgrow _; have Hown8 := Lib.hid own8; have Hg8 := Lib.hid (gb_step (gb_alloc Hg3.out _) hgrow (fun i e => .inr (Ho4.out.lt i e).1)); clear own8 hgrow)
        go_roundw
        case rel =>
          refine ⟨k + 1, rs ++ [r], _, rfl, by have := Hlt.out; omega, rfl, Hnx, ?_, Hg8.out⟩
          rw [fv_append, show fv [r] = [.int .i64 r.d, .int .i64 r.n, .string r.key, .int .i64 r.kind, .string r.item, .int .i64 r.v] from rfl]
          exact Hown8.out
        case measure => simp [intOf]; have := Hlt.out; omega
      · have HN : Hid (allOf factOfW l = none) := allOf_bad (List.mem_of_getElem? Hx.out) hno
        obtain ⟨t0, p0, rfl⟩ := hE.iface
        have HE := Lib.hid hE
        have Hf := Lib.hid hf
        have Hd := Lib.hid hd
        clear hE hf hd hno t1
        go_wp2_with fail
        refine bodyPost_ret (results_tmp2 rfl _ _ _) rfl ?_
        exact ⟨.inr ⟨HN.out, _, d + 1, f, rfl, .item d _ _ _ f HE.out, Hf.out, by have := Hd.out; omega⟩, gb_alloc Hg2.out _⟩
    · have hkn : k = n := by omega
      subst hkn
      have d1 : decide (k < k) = false := by simp
      have d2 : decide ((k : Int) < (k : Int)) = false := by simp
      have Hr2 : Hid (allOf factOfW l = some rs) := by
        have h := Hr.out
        rwa [List.take_of_length_le (by rw [Hl.out]; exact Nat.le_refl _)] at h
      have hrl : rs.length = k := by rw [allOf_len Hr2.out, Hl.out]
      obtain ⟨A5, c5, rfl, hR, _⟩ := own_fl Ho.out hrl
      have HR := Lib.hid hR
      have Hrl := Lib.hid hrl
      have Hg := Lib.hid hg
      clear hlt hk hR hrl hg Hr
      go_wp2_with fail
      refine bodyPost_ret (results_tmp2 rfl _ _ _) rfl ?_
      refine ⟨.inl ⟨rs, A5, c5, Hr2.out, ?_, ?_⟩, Hg.out⟩
      · show Ending.returned (.tuple #[.slice A5 k c5, .nilIface]) = _
        rw [Hrl.out]
      · rw [Hrl.out]; exact HR.out
/-- What stateOf says of bytes. -/
def StateOfIs (s : ByteArray) (w : World) (e : Ending) (w' : World) : Prop := ((∃ t A p c B n d, IsPut s.data.toList t ∧ e = .returned (.tuple #[.agg #[.slice A p c, .slice B n d], .nilIface]) ∧ SL w' A p B n t) ∨ ((∀ t, ¬ IsPut s.data.toList t) ∧ ∃ v d f, e = .returned (.tuple #[.agg #[.slice none 0 0, .slice none 0 0], v]) ∧ Sp.ErrV d v f ∧ f ≠ 0 ∧ d ≤ 8)) ∧ w.grownBy w' none
theorem list_short {x a : Wr} {b : List UInt8} (hg : get b = some x) (hk : x.k = 3) (ha : a ∈ x.l) (h3 : a.k = 3) : a.l.length ≤ 65536 := by
  have hm := (get_back hg).2.1
  unfold Wr.may at hm
  exact (fit_lst ((fit_lst hm hk).2.2 a ha) h3).2.1
set_option maxHeartbeats 16000000 in
set_option maxRecDepth 100000 in
theorem stateOf_any (s : ByteArray) (w : World) (hs : s.data.toList.length ≤ 1099511627776) (hT : ErrT w) : Calls Tryz.prog 18 #[.string s] w (StateOfIs s w) := by
  obtain ⟨h0, hh0⟩ : ∃ h0, w.heap.size = h0 := ⟨_, rfl⟩
  obtain ⟨W0, hW0⟩ : ∃ W0, w.alloc (.cells #[.slice none 0 0, .slice none 0 0] 25) = W0 := ⟨_, rfl⟩
  have G0 : w.grownBy W0 none := by rw [← hW0]; exact gb_alloc (gb_refl _ _) _
  have HR0 : Hid (Row W0 h0 25 #[.slice none 0 0, .slice none 0 0]) := by rw [← hW0, ← hh0]; exact Row.new _ _ _
  have Hh0 : Hid (w.heap.size ≤ h0) := by show _ ≤ _; omega
  have HG := Lib.hid G0
  cases hg : get s.data.toList with
  | none =>
    have HGet := Lib.hid (get_none s W0 hs hg (hT.keep G0 (by simp)))
    have HNo : Hid (∀ t, ¬ IsPut s.data.toList t) := isPut_none hg
    clear G0 hg hs hT
    go_enter Tryz.func18, Tryz.ntmps18
    go_upto_region 1 with fail
    clear hW0 hh0
    go_wp2_with fail
    refine HGet.out.mono ?_
    rintro e w1 ⟨rfl, g1⟩
    have Hgz := Lib.hid (gb_alloc g1 (.cells #[.int .i64 0, .int .i64 0, .string ⟨#[]⟩, .slice none 0 0] 60))
    clear g1
    have hr := HR0.out.kept (Hgz.out) (by simp)
    have f0 := hr.free 0
    have f1 := hr.free 1
    have u0 : (w1.alloc (.cells #[.int .i64 0, .int .i64 0, .string ⟨#[]⟩, .slice none 0 0] 60)).cell? ⟨h0, 0, none⟩ = some (.slice none 0 0) := hr.at_ (i := 0) rfl
    have u1 : (w1.alloc (.cells #[.int .i64 0, .int .i64 0, .string ⟨#[]⟩, .slice none 0 0] 60)).cell? ⟨h0, 1, none⟩ = some (.slice none 0 0) := hr.at_ (i := 1) rfl
    have Hr := Lib.hid hr
    clear hr
    go_wp2_with fail
    have Hx := Lib.hid ((Hr.out.set_ 0 (.slice none 0 0)).set_ 1 (.slice none 0 0))
    have kk : (w1.alloc (.cells #[.int .i64 0, .int .i64 0, .string ⟨#[]⟩, .slice none 0 0] 60)).grownBy (((w1.alloc (.cells #[.int .i64 0, .int .i64 0, .string ⟨#[]⟩, .slice none 0 0] 60)).setCell ⟨h0, 0, none⟩ (.slice none 0 0)).setCell ⟨h0, 1, none⟩ (.slice none 0 0)) (some h0) := gb_then (gb_set1 _ _ _ _) (gb_set1 _ _ _ _)
    have q0 : (((w1.alloc (.cells #[.int .i64 0, .int .i64 0, .string ⟨#[]⟩, .slice none 0 0] 60)).setCell ⟨h0, 0, none⟩ (.slice none 0 0)).setCell ⟨h0, 1, none⟩ (.slice none 0 0)).cell? ⟨h0, 0, none⟩ = some (.slice none 0 0) := Hx.out.at_ (i := 0) rfl
    have q1 : (((w1.alloc (.cells #[.int .i64 0, .int .i64 0, .string ⟨#[]⟩, .slice none 0 0] 60)).setCell ⟨h0, 0, none⟩ (.slice none 0 0)).setCell ⟨h0, 1, none⟩ (.slice none 0 0)).cell? ⟨h0, 1, none⟩ = some (.slice none 0 0) := Hx.out.at_ (i := 1) rfl
    refine bodyPost_ret (v := .tuple #[.agg #[.slice none 0 0, .slice none 0 0], (.iface 92 (.agg #[.string ⟨#[98, 121, 116, 101, 115]⟩, .int .i64 s.size, .iface 56 (.int .i64 1)]))]) (by simp [results, Tryz.results18, go_sem, q0, q1]) rfl ?_
    exact ⟨.inr ⟨HNo.out, _, 1, 1, rfl, .item 0 _ _ _ 1 (.flt 1), by decide, by decide⟩, gb_new (gb_none HG.out Hgz.out) kk Hh0.out⟩
  | some x =>
    have HGet := Lib.hid (get_some s W0 hs x hg)
    have Hgx := Lib.hid hg
    obtain ⟨ln, hln⟩ : ∃ ln, x.l.length = ln := ⟨_, rfl⟩
    have Hln := Lib.hid hln
    clear G0 hg hs hT
    go_enter Tryz.func18, Tryz.ntmps18
    go_upto_region 1 with fail
    clear hW0 hh0 hln
    go_wp2_with fail
    refine HGet.out.mono ?_
    rintro e w1 ⟨A, c, rfl, hx, g1⟩
    rw [Hln.out] at hx ⊢
    have Hg1 := Lib.hid g1
    have Hx1 := Lib.hid (hx.low (Nat.zero_le _))
    have HI : Hid (∀ W, w1.grownBy W none → ∀ g, Row W g 3 #[.int .i64 3, .int .i64 3] → Calls Tryz.prog 43 #[.agg #[.int .i64 x.k, .int .i64 x.n, .string x.s, .slice A ln c], .slice (some ⟨g, 0, none⟩) 2 2] W (ItemsIs x A c [3, 3] W)) := fun W hW g hr => by
      have h := items_any x A c g 2 [3, 3] W (by rw [Hln.out]; exact Hx1.out.kept hW) (ints_row [3, 3] hr) hr.lt rfl (by decide)
      rw [Hln.out] at h
      exact h
    clear hx g1
    go_wp2_with fail
    have hrn : Row ((w1.alloc (.cells #[.int .i64 x.k, .int .i64 x.n, .string x.s, .slice A ln c] 60)).alloc (.cells #[.int .i64 3, .int .i64 3] 3)) (w1.heap.size + 1) 3 #[.int .i64 3, .int .i64 3] := by
      have h := Row.new (w1.alloc (.cells #[.int .i64 x.k, .int .i64 x.n, .string x.s, .slice A ln c] 60)) 3 #[.int .i64 3, .int .i64 3]
      rwa [World.size_alloc] at h
    refine (HI.out _ (gb_alloc (gb_alloc (gb_refl w1 none) _) _) _ hrn).mono ?_
    clear hrn
    rintro e w3 ⟨hres, g3⟩
    have Hg3 := Lib.hid (gb_none (gb_alloc (gb_alloc (gb_refl w1 none) _) _) g3)
    clear g3
    rcases hres with ⟨hok, rfl⟩ | ⟨hno, v, d, f, rfl, hE, hf, hd⟩
    · have Hok := Lib.hid hok
      obtain ⟨a, b, el, ka, kb, hst⟩ := stOfW_of hok
      obtain rfl : ln = 2 := by rw [← Hln.out, el]; rfl
      have ha16 := list_short Hgx.out hok.1 (a := a) (by rw [el]; simp) ka
      have hb16 := list_short Hgx.out hok.1 (a := b) (by rw [el]; simp) kb
      have hx3 := Hx1.out.kept Hg3.out
      obtain ⟨g2, o, A3, c3, eA, _, hg2, _, _, _, na, hla⟩ := hx3.item (i := 0) (x := a) (by rw [el]; rfl)
      subst eA
      obtain ⟨g4, o4, A4, c4, eA, _, _, _, _, _, nb, hlb⟩ := hx3.item (i := 1) (x := b) (by rw [el]; rfl)
      cases eA
      have HXa : Hid (∀ W, w3.grownBy W none → W.cell? ⟨g2, o + 3, none⟩ = some (.slice A3 a.l.length c3)) := fun W hW => (World.cell?_of_block (a := ⟨g2, o + 3, none⟩) (hW.block g2 hg2 (by simp))).trans (by simpa using na)
      have HXb : Hid (∀ W, w3.grownBy W none → W.cell? ⟨g2, o + 4 + 3, none⟩ = some (.slice A4 b.l.length c4)) := fun W hW => (World.cell?_of_block (a := ⟨g2, o + 4 + 3, none⟩) (hW.block g2 hg2 (by simp))).trans (by simpa using nb)
      have HCa : Hid (∀ W, w3.grownBy W none → Calls Tryz.prog 44 #[.slice A3 a.l.length c3, .string ⟨#[114, 117, 110]⟩, .func (.func 45) #[] #[]] W (allRunIs a.l W)) := fun W hW => allRun_any a.l A3 c3 _ W (hla.kept hW) ha16
      have HCb : Hid (∀ W, w3.grownBy W none → Calls Tryz.prog 46 #[.slice A4 b.l.length c4, .string ⟨#[102, 97, 99, 116]⟩, .func (.func 47) #[] #[]] W (allFactIs b.l W)) := fun W hW => allFact_any b.l A4 c4 _ W (hlb.kept hW) hb16
      have Hst := Lib.hid hst
      have Ha16 := Lib.hid ha16
      have Hb16 := Lib.hid hb16
      have xa := HXa.out w3 (gb_refl _ _)
      rw [show x.l.length = 2 from Hln.out]
      clear hok el ka kb hst ha16 hb16 hx3 na hla nb hlb hg2 HI HGet Hx1
      go_wp2_with fail
      refine (HCa.out _ (gb_refl _ _)).mono ?_
      rintro e w4 ⟨hres, g4⟩
      have Hg4 := Lib.hid g4
      have xb := HXb.out w4 g4
      clear g4 xa
      rcases hres with ⟨rs, A5, c5, hrs, rfl, hR⟩ | ⟨hno, v, d, f, rfl, hE, hf, hd⟩
      · have Hrs := Lib.hid hrs
        have HR := Lib.hid hR
        have Hrl : Hid (rs.length ≤ 65536) := by show _ ≤ _; rw [allOf_len hrs]; exact Ha16.out
        clear hrs hR
        go_wp2_with fail
        refine (HCb.out _ Hg4.out).mono ?_
        rintro e w5 ⟨hres, g5⟩
        have Hg5 := Lib.hid (gb_none Hg4.out g5)
        have HR5 := Lib.hid (HR.out.keep g5)
        clear g5 xb
        rcases hres with ⟨fs, A6, c6, hfs, rfl, hF⟩ | ⟨hno, v, d, f, rfl, hE, hf, hd⟩
        · have Hfl : Hid (fs.length ≤ 65536) := by show _ ≤ _; rw [allOf_len hfs]; exact Hb16.out
          have Hsx : Hid (stOfW x = some ⟨rs, fs⟩) := by
            show _ = _
            rw [Hst.out, Hrs.out]
            show (allOf factOfW b.l).bind _ = _
            rw [hfs]; rfl
          have HSL : Hid (SL w5 A5 rs.length A6 fs.length ⟨rs, fs⟩) := ⟨HR5.out, hF⟩
          have HCk : Hid (∀ W, w5.grownBy W none → Calls Tryz.prog 22 #[.agg #[.slice A5 rs.length c5, .slice A6 fs.length c6]] W (CheckIs ⟨rs, fs⟩ W)) := fun W hW => check_any A5 A6 rs.length c5 fs.length c6 ⟨rs, fs⟩ W (HSL.out.keep hW) (by have := Hrl.out; omega) (by have := Hfl.out; omega)
          clear hfs hF
          have HRS : Hid (rs.length ≤ 65536) := Hrl
          obtain ⟨nr, hnr⟩ : ∃ nr, rs.length = nr := ⟨_, rfl⟩
          have Hnr := Lib.hid hnr
          rw [hnr] at HSL HCk ⊢
          clear hnr
          obtain ⟨nf, hnf⟩ : ∃ nf, fs.length = nf := ⟨_, rfl⟩
          rw [hnf] at HSL HCk ⊢
          clear hnf
          go_wp2_with fail
          refine (HCk.out _ (gb_alloc (gb_refl _ _) _)).mono ?_
          rintro e w6 ⟨v, rfl, hv, g6⟩
          have Hg6 := Lib.hid (gb_none (gb_alloc (gb_refl w5 none) _) g6)
          have hrb := (Row.new w5 25 #[.slice A5 nr c5, .slice A6 nf c6]).kept g6 (by simp)
          have y0 : w6.cell? ⟨w5.heap.size, 0, none⟩ = some (.slice A5 nr c5) := hrb.at_ (i := 0) rfl
          have y1 : w6.cell? ⟨w5.heap.size, 1, none⟩ = some (.slice A6 nf c6) := hrb.at_ (i := 1) rfl
          clear g6 hrb
          rcases hv with ⟨hp, rfl⟩ | ⟨hn, f, hE, hf⟩
          · have HP : Hid (IsPut s.data.toList ⟨rs, fs⟩) := isPut_of Hgx.out Hsx.out hp.1
            have Hgz := Lib.hid (gb_none Hg1.out (gb_none Hg3.out (gb_none Hg5.out Hg6.out)))
            have HS6 := Lib.hid (HSL.out.keep Hg6.out)
            clear hp
            have hr := HR0.out.kept (Hgz.out) (by simp)
            have f0 := hr.free 0
            have f1 := hr.free 1
            have u0 : (w6).cell? ⟨h0, 0, none⟩ = some (.slice none 0 0) := hr.at_ (i := 0) rfl
            have u1 : (w6).cell? ⟨h0, 1, none⟩ = some (.slice none 0 0) := hr.at_ (i := 1) rfl
            have Hr := Lib.hid hr
            clear hr
            go_wp2_with fail
            have Hx := Lib.hid ((Hr.out.set_ 0 (.slice A5 nr c5)).set_ 1 (.slice A6 nf c6))
            have kk : (w6).grownBy (((w6).setCell ⟨h0, 0, none⟩ (.slice A5 nr c5)).setCell ⟨h0, 1, none⟩ (.slice A6 nf c6)) (some h0) := gb_then (gb_set1 _ _ _ _) (gb_set1 _ _ _ _)
            have q0 : (((w6).setCell ⟨h0, 0, none⟩ (.slice A5 nr c5)).setCell ⟨h0, 1, none⟩ (.slice A6 nf c6)).cell? ⟨h0, 0, none⟩ = some (.slice A5 nr c5) := Hx.out.at_ (i := 0) rfl
            have q1 : (((w6).setCell ⟨h0, 0, none⟩ (.slice A5 nr c5)).setCell ⟨h0, 1, none⟩ (.slice A6 nf c6)).cell? ⟨h0, 1, none⟩ = some (.slice A6 nf c6) := Hx.out.at_ (i := 1) rfl
            refine bodyPost_ret (v := .tuple #[.agg #[.slice A5 nr c5, .slice A6 nf c6], .nilIface]) (by simp [results, Tryz.results18, go_sem, q0, q1]) rfl ?_
            exact ⟨.inl ⟨_, A5, nr, c5, A6, nf, c6, HP.out, rfl, ⟨rl_beside HS6.out.1 kk Hr.out, fl_beside HS6.out.2 kk Hr.out⟩⟩, gb_new (gb_none HG.out Hgz.out) kk Hh0.out⟩
          · have hd : 1 ≤ 8 := by decide
            obtain ⟨d, hd1⟩ : ∃ d, d = 1 := ⟨_, rfl⟩
            rw [← hd1] at hE hd
            clear hd1
            obtain ⟨t0, p0, rfl⟩ := hE.iface
            have HE := Lib.hid hE
            have Hf := Lib.hid hf
            have Hd := Lib.hid hd
            have HNo : Hid (∀ t, ¬ IsPut s.data.toList t) := isPut_nomay Hgx.out Hsx.out (fun hm => hn ⟨hm, by show rs.length ≤ 65536; exact HRS.out⟩)
            have Hgz := Lib.hid (gb_none Hg1.out (gb_none Hg3.out (gb_none Hg5.out Hg6.out)))
            have hr := HR0.out.kept (Hgz.out) (by simp)
            have f0 := hr.free 0
            have f1 := hr.free 1
            have u0 : (w6).cell? ⟨h0, 0, none⟩ = some (.slice none 0 0) := hr.at_ (i := 0) rfl
            have u1 : (w6).cell? ⟨h0, 1, none⟩ = some (.slice none 0 0) := hr.at_ (i := 1) rfl
            have Hr := Lib.hid hr
            clear hr
            clear hE hf hd
            go_wp2_with fail
            have Hx := Lib.hid ((Hr.out.set_ 0 (.slice none 0 0)).set_ 1 (.slice none 0 0))
            have kk : (w6).grownBy (((w6).setCell ⟨h0, 0, none⟩ (.slice none 0 0)).setCell ⟨h0, 1, none⟩ (.slice none 0 0)) (some h0) := gb_then (gb_set1 _ _ _ _) (gb_set1 _ _ _ _)
            have q0 : (((w6).setCell ⟨h0, 0, none⟩ (.slice none 0 0)).setCell ⟨h0, 1, none⟩ (.slice none 0 0)).cell? ⟨h0, 0, none⟩ = some (.slice none 0 0) := Hx.out.at_ (i := 0) rfl
            have q1 : (((w6).setCell ⟨h0, 0, none⟩ (.slice none 0 0)).setCell ⟨h0, 1, none⟩ (.slice none 0 0)).cell? ⟨h0, 1, none⟩ = some (.slice none 0 0) := Hx.out.at_ (i := 1) rfl
            refine bodyPost_ret (v := .tuple #[.agg #[.slice none 0 0, .slice none 0 0], .iface t0 p0]) (by simp [results, Tryz.results18, go_sem, q0, q1]) rfl ?_
            exact ⟨.inr ⟨HNo.out, _, d, f, rfl, HE.out, Hf.out, Hd.out⟩, gb_new (gb_none HG.out Hgz.out) kk Hh0.out⟩
        · obtain ⟨t0, p0, rfl⟩ := hE.iface
          have HE := Lib.hid hE
          have Hf := Lib.hid hf
          have Hd := Lib.hid hd
          have HNo : Hid (∀ t, ¬ IsPut s.data.toList t) := isPut_nowire Hgx.out (by rw [Hst.out, Hrs.out]; show (allOf factOfW b.l).bind _ = _; rw [hno]; rfl)
          have Hgz := Lib.hid (gb_none Hg1.out (gb_none Hg3.out Hg5.out))
          have hr := HR0.out.kept (Hgz.out) (by simp)
          have f0 := hr.free 0
          have f1 := hr.free 1
          have u0 : (w5).cell? ⟨h0, 0, none⟩ = some (.slice none 0 0) := hr.at_ (i := 0) rfl
          have u1 : (w5).cell? ⟨h0, 1, none⟩ = some (.slice none 0 0) := hr.at_ (i := 1) rfl
          have Hr := Lib.hid hr
          clear hr
          clear hE hf hd
          go_wp2_with fail
          have Hx := Lib.hid ((Hr.out.set_ 0 (.slice none 0 0)).set_ 1 (.slice none 0 0))
          have kk : (w5).grownBy (((w5).setCell ⟨h0, 0, none⟩ (.slice none 0 0)).setCell ⟨h0, 1, none⟩ (.slice none 0 0)) (some h0) := gb_then (gb_set1 _ _ _ _) (gb_set1 _ _ _ _)
          have q0 : (((w5).setCell ⟨h0, 0, none⟩ (.slice none 0 0)).setCell ⟨h0, 1, none⟩ (.slice none 0 0)).cell? ⟨h0, 0, none⟩ = some (.slice none 0 0) := Hx.out.at_ (i := 0) rfl
          have q1 : (((w5).setCell ⟨h0, 0, none⟩ (.slice none 0 0)).setCell ⟨h0, 1, none⟩ (.slice none 0 0)).cell? ⟨h0, 1, none⟩ = some (.slice none 0 0) := Hx.out.at_ (i := 1) rfl
          refine bodyPost_ret (v := .tuple #[.agg #[.slice none 0 0, .slice none 0 0], .iface t0 p0]) (by simp [results, Tryz.results18, go_sem, q0, q1]) rfl ?_
          exact ⟨.inr ⟨HNo.out, _, d, f, rfl, HE.out, Hf.out, by have := Hd.out; omega⟩, gb_new (gb_none HG.out Hgz.out) kk Hh0.out⟩
      · obtain ⟨t0, p0, rfl⟩ := hE.iface
        have HE := Lib.hid hE
        have Hf := Lib.hid hf
        have Hd := Lib.hid hd
        have HNo : Hid (∀ t, ¬ IsPut s.data.toList t) := isPut_nowire Hgx.out (by rw [Hst.out, hno]; rfl)
        have Hgz := Lib.hid (gb_none Hg1.out (gb_none Hg3.out Hg4.out))
        have hr := HR0.out.kept (Hgz.out) (by simp)
        have f0 := hr.free 0
        have f1 := hr.free 1
        have u0 : (w4).cell? ⟨h0, 0, none⟩ = some (.slice none 0 0) := hr.at_ (i := 0) rfl
        have u1 : (w4).cell? ⟨h0, 1, none⟩ = some (.slice none 0 0) := hr.at_ (i := 1) rfl
        have Hr := Lib.hid hr
        clear hr
        clear hE hf hd
        go_wp2_with fail
        have Hx := Lib.hid ((Hr.out.set_ 0 (.slice none 0 0)).set_ 1 (.slice none 0 0))
        have kk : (w4).grownBy (((w4).setCell ⟨h0, 0, none⟩ (.slice none 0 0)).setCell ⟨h0, 1, none⟩ (.slice none 0 0)) (some h0) := gb_then (gb_set1 _ _ _ _) (gb_set1 _ _ _ _)
        have q0 : (((w4).setCell ⟨h0, 0, none⟩ (.slice none 0 0)).setCell ⟨h0, 1, none⟩ (.slice none 0 0)).cell? ⟨h0, 0, none⟩ = some (.slice none 0 0) := Hx.out.at_ (i := 0) rfl
        have q1 : (((w4).setCell ⟨h0, 0, none⟩ (.slice none 0 0)).setCell ⟨h0, 1, none⟩ (.slice none 0 0)).cell? ⟨h0, 1, none⟩ = some (.slice none 0 0) := Hx.out.at_ (i := 1) rfl
        refine bodyPost_ret (v := .tuple #[.agg #[.slice none 0 0, .slice none 0 0], .iface t0 p0]) (by simp [results, Tryz.results18, go_sem, q0, q1]) rfl ?_
        exact ⟨.inr ⟨HNo.out, _, d, f, rfl, HE.out, Hf.out, by have := Hd.out; omega⟩, gb_new (gb_none HG.out Hgz.out) kk Hh0.out⟩
    · obtain ⟨t0, p0, rfl⟩ := hE.iface
      have HE := Lib.hid hE
      have Hf := Lib.hid hf
      have Hd := Lib.hid hd
      have HNo : Hid (∀ t, ¬ IsPut s.data.toList t) := isPut_nowire Hgx.out (stOfW_no hno)
      have Hgz := Lib.hid (gb_none Hg1.out Hg3.out)
      have hr := HR0.out.kept (Hgz.out) (by simp)
      have f0 := hr.free 0
      have f1 := hr.free 1
      have u0 : (w3).cell? ⟨h0, 0, none⟩ = some (.slice none 0 0) := hr.at_ (i := 0) rfl
      have u1 : (w3).cell? ⟨h0, 1, none⟩ = some (.slice none 0 0) := hr.at_ (i := 1) rfl
      have Hr := Lib.hid hr
      clear hr
      clear hE hf hd
      go_wp2_with fail
      have Hx := Lib.hid ((Hr.out.set_ 0 (.slice none 0 0)).set_ 1 (.slice none 0 0))
      have kk : (w3).grownBy (((w3).setCell ⟨h0, 0, none⟩ (.slice none 0 0)).setCell ⟨h0, 1, none⟩ (.slice none 0 0)) (some h0) := gb_then (gb_set1 _ _ _ _) (gb_set1 _ _ _ _)
      have q0 : (((w3).setCell ⟨h0, 0, none⟩ (.slice none 0 0)).setCell ⟨h0, 1, none⟩ (.slice none 0 0)).cell? ⟨h0, 0, none⟩ = some (.slice none 0 0) := Hx.out.at_ (i := 0) rfl
      have q1 : (((w3).setCell ⟨h0, 0, none⟩ (.slice none 0 0)).setCell ⟨h0, 1, none⟩ (.slice none 0 0)).cell? ⟨h0, 1, none⟩ = some (.slice none 0 0) := Hx.out.at_ (i := 1) rfl
      refine bodyPost_ret (v := .tuple #[.agg #[.slice none 0 0, .slice none 0 0], .iface t0 p0]) (by simp [results, Tryz.results18, go_sem, q0, q1]) rfl ?_
      exact ⟨.inr ⟨HNo.out, _, d, f, rfl, HE.out, Hf.out, by have := Hd.out; omega⟩, gb_new (gb_none HG.out Hgz.out) kk Hh0.out⟩
/-- What Get says of bytes. -/
def GetIs (s : ByteArray) (w : World) (e : Ending) (w' : World) : Prop := ((∃ t A p c B n d, IsPut s.data.toList t ∧ e = .returned (.tuple #[.agg #[.slice A p c, .slice B n d], .bool true]) ∧ SL w' A p B n t) ∨ ((∀ t, ¬ IsPut s.data.toList t) ∧ e = .returned (.tuple #[.agg #[.slice none 0 0, .slice none 0 0], .bool false]))) ∧ w.grownBy w' none
set_option maxHeartbeats 16000000 in
set_option maxRecDepth 100000 in
theorem getS_any (s : ByteArray) (w : World) (hs : s.data.toList.length ≤ 1099511627776) (hT : ErrT w) : Calls Tryz.prog 9 #[.string s] w (GetIs s w) := by
  obtain ⟨h0, hh0⟩ : ∃ h0, w.heap.size = h0 := ⟨_, rfl⟩
  obtain ⟨W0, hW0⟩ : ∃ W0, w.alloc (.cells #[.slice none 0 0, .slice none 0 0] 25) = W0 := ⟨_, rfl⟩
  have G0 : w.grownBy W0 none := by rw [← hW0]; exact gb_alloc (gb_refl _ _) _
  have HR0 : Hid (Row W0 h0 25 #[.slice none 0 0, .slice none 0 0]) := by rw [← hW0, ← hh0]; exact Row.new _ _ _
  have Hh0 : Hid (w.heap.size ≤ h0) := by show _ ≤ _; omega
  have HG := Lib.hid G0
  have HS := Lib.hid (stateOf_any s W0 hs (hT.keep G0 (by simp)))
  have HT := Lib.hid (hT.keep G0 (by simp))
  clear G0 hs hT
  go_enter Tryz.func9, Tryz.ntmps9
  go_upto_region 1 with fail
  clear hW0 hh0
  go_wp2_with fail
  refine HS.out.mono ?_
  rintro e w1 ⟨hres, g1⟩
  have Hg1 := Lib.hid g1
  clear g1
  rcases hres with ⟨t, A, p, c, B, n, d, hP, rfl, hsl⟩ | ⟨hno, v, d, f, rfl, hE, hf, hd⟩
  · have HP := Lib.hid hP
    have HSL := Lib.hid hsl
    have Hf := Lib.hid (Sp.faultOf_nil (w1.alloc (.cells #[.slice A p c, .slice B n d] 25)))
    clear hP hsl
    go_wp2_with fail
    refine Hf.out.mono ?_
    rintro e w2 ⟨rfl, g2⟩
    have hrb := (Row.new w1 25 #[.slice A p c, .slice B n d]).kept g2 (by simp)
    have y0 : w2.cell? ⟨w1.heap.size, 0, none⟩ = some (.slice A p c) := hrb.at_ (i := 0) rfl
    have y1 : w2.cell? ⟨w1.heap.size, 1, none⟩ = some (.slice B n d) := hrb.at_ (i := 1) rfl
    have hg12 := gb_none (gb_alloc (gb_refl w1 none) _) g2
    have HS6 := Lib.hid (HSL.out.keep hg12)
    have Hgz := Lib.hid (gb_none Hg1.out hg12)
    clear g2 hrb hg12
    have hr := HR0.out.kept (Hgz.out) (by simp)
    have f0 := hr.free 0
    have f1 := hr.free 1
    have u0 : (w2).cell? ⟨h0, 0, none⟩ = some (.slice none 0 0) := hr.at_ (i := 0) rfl
    have u1 : (w2).cell? ⟨h0, 1, none⟩ = some (.slice none 0 0) := hr.at_ (i := 1) rfl
    have Hr := Lib.hid hr
    clear hr
    go_wp2_with fail
    have Hx := Lib.hid ((Hr.out.set_ 0 (.slice A p c)).set_ 1 (.slice B n d))
    have kk : (w2).grownBy (((w2).setCell ⟨h0, 0, none⟩ (.slice A p c)).setCell ⟨h0, 1, none⟩ (.slice B n d)) (some h0) := gb_then (gb_set1 _ _ _ _) (gb_set1 _ _ _ _)
    have q0 : (((w2).setCell ⟨h0, 0, none⟩ (.slice A p c)).setCell ⟨h0, 1, none⟩ (.slice B n d)).cell? ⟨h0, 0, none⟩ = some (.slice A p c) := Hx.out.at_ (i := 0) rfl
    have q1 : (((w2).setCell ⟨h0, 0, none⟩ (.slice A p c)).setCell ⟨h0, 1, none⟩ (.slice B n d)).cell? ⟨h0, 1, none⟩ = some (.slice B n d) := Hx.out.at_ (i := 1) rfl
    refine bodyPost_ret (v := .tuple #[.agg #[.slice A p c, .slice B n d], .bool true]) (by simp [results, Tryz.results9, go_sem, q0, q1]) rfl ?_
    exact ⟨.inl ⟨t, A, p, c, B, n, d, HP.out, rfl, ⟨rl_beside HS6.out.1 kk Hr.out, fl_beside HS6.out.2 kk Hr.out⟩⟩, gb_new (gb_none HG.out Hgz.out) kk Hh0.out⟩
  · have HN := Lib.hid hno
    obtain ⟨t0, p0, rfl⟩ := hE.iface
    have Hf := Lib.hid (Sp.faultOf_any d _ f hE hd (w1.alloc (.cells #[.slice none 0 0, .slice none 0 0] 25)) (HT.out.keep (gb_alloc Hg1.out _) (by simp)))
    have t1 : (f == 0) = false := by simpa using hf
    have t2 : (f != 0) = true := by simpa using hf
    clear hno hE hf hd
    go_wp2_with fail
    refine Hf.out.mono ?_
    rintro e w2 ⟨rfl, g2⟩
    have Hgz := Lib.hid (gb_none Hg1.out (gb_none (gb_alloc (gb_refl w1 none) _) g2))
    clear g2
    have hr := HR0.out.kept (Hgz.out) (by simp)
    have f0 := hr.free 0
    have f1 := hr.free 1
    have u0 : (w2).cell? ⟨h0, 0, none⟩ = some (.slice none 0 0) := hr.at_ (i := 0) rfl
    have u1 : (w2).cell? ⟨h0, 1, none⟩ = some (.slice none 0 0) := hr.at_ (i := 1) rfl
    have Hr := Lib.hid hr
    clear hr
    go_wp2_with fail
    have Hx := Lib.hid ((Hr.out.set_ 0 (.slice none 0 0)).set_ 1 (.slice none 0 0))
    have kk : (w2).grownBy (((w2).setCell ⟨h0, 0, none⟩ (.slice none 0 0)).setCell ⟨h0, 1, none⟩ (.slice none 0 0)) (some h0) := gb_then (gb_set1 _ _ _ _) (gb_set1 _ _ _ _)
    have q0 : (((w2).setCell ⟨h0, 0, none⟩ (.slice none 0 0)).setCell ⟨h0, 1, none⟩ (.slice none 0 0)).cell? ⟨h0, 0, none⟩ = some (.slice none 0 0) := Hx.out.at_ (i := 0) rfl
    have q1 : (((w2).setCell ⟨h0, 0, none⟩ (.slice none 0 0)).setCell ⟨h0, 1, none⟩ (.slice none 0 0)).cell? ⟨h0, 1, none⟩ = some (.slice none 0 0) := Hx.out.at_ (i := 1) rfl
    refine bodyPost_ret (v := .tuple #[.agg #[.slice none 0 0, .slice none 0 0], .bool false]) (by simp [results, Tryz.results9, go_sem, q0, q1]) rfl ?_
    exact ⟨.inr ⟨HN.out, rfl⟩, gb_new (gb_none HG.out Hgz.out) kk Hh0.out⟩
end Go.Proofs.YthijiefopcnclaaGreatDoor.Dt
