/- The laws' deltas: what one device's deeds by numbers leave, and the state. Written by gen_budel.py. -/
import Derived.Test.YtbdpckphlagijaaDoorBuFit
import Derived.Test.YtbdpckphlagijaaDoorBuMem
import Derived.Test.YtbdpckphlagijaaDoorFtMake
set_option linter.unusedVariables false
namespace Go.Proofs.YtbdpckphlagijaaDoor.Bf
open Go Go.RowKit Go.Proofs.YtbdpckphlagijaaDoor.Mm Go.Proofs.YtbdpckphlagijaaDoor.Td Go.Proofs.YtbdpckphlagijaaDoor.Dt

/-- What deltas tells. -/
def DeltasIs (ls : List St) (s : St) (w : World) (e : Ending) (w' : World) : Prop := ∃ v A n c Bq m d, e = .returned (.tuple #[v, .agg #[.slice A n c, .slice Bq m d]]) ∧ LS w' w.heap.size v ls ∧ SL w' A n Bq m s ∧ n ≤ c ∧ m ≤ d ∧ w.grownBy w' none
attribute [local go_sem] Td.upon_value Td.upon_skip Td.upon_enter Td.upon_row Td.look_tmp Td.look_const Td.look_func Td.look_global
set_option maxHeartbeats 40000000 in
set_option maxRecDepth 100000 in
theorem deltas_any (A : Option Addr) (n c : Nat) (ns : List Int) (w : World) (hl : NL w A n ns) :
    Calls Tryd.prog 5 #[.slice A n c] w (DeltasIs (deltaK ns (min (n / 2) 20)).1 (deltaK ns (min (n / 2) 20)).2 w) := by
  obtain ⟨h0, hh0⟩ : ∃ h0, w.heap.size = h0 := ⟨_, rfl⟩
  obtain ⟨K, hK⟩ : ∃ K, min (n / 2) 20 = K := ⟨_, rfl⟩
  rw [hK]
  have HK : Hid (K ≤ 20 ∧ ∀ k, k < K ↔ 2 * k + 1 < n ∧ 2 * k < 40) := ⟨by omega, fun k => by omega⟩
  have Hl := Lib.hid hl
  have Hh0 := Lib.hid hh0
  obtain ⟨W0, hW0⟩ : ∃ W0, (w.alloc (.cells #[.slice none 0 0, .slice none 0 0] 28)).alloc (.cells #[.slice none 0 0, .slice none 0 0] 28) = W0 := ⟨_, rfl⟩
  have G0 : w.grownBy W0 none := by rw [← hW0]; exact gb_alloc (gb_alloc (gb_refl _ _) _) _
  have hr0 : Row W0 h0 28 #[.slice none 0 0, .slice none 0 0] := by rw [← hW0, ← hh0]; exact (Row.new _ _ _).alloc _
  have hr1 : Row W0 (h0 + 1) 28 #[.slice none 0 0, .slice none 0 0] := by
    rw [← hW0, ← hh0]
    have h := Row.new (w.alloc (.cells #[.slice none 0 0, .slice none 0 0] 28)) 28 #[.slice none 0 0, .slice none 0 0]
    rwa [World.size_alloc] at h
  have HG0 := Lib.hid G0
  have HR0 := Lib.hid hr0
  have HR1 := Lib.hid hr1
  clear hl hK G0 hr0 hr1
  go_enter Tryd.func5, Tryd.ntmps5
  go_upto_region 2 with fail
  clear hW0 hh0
  go_wp2_with fail
  go_loopw [5, 6] (fun v i wr => ∃ (k q : Nat) (A1 B1 : Option Addr) (n1 c1 m1 d1 : Nat), q = 2 * k ∧ k ≤ K ∧ i = .int .i64 q ∧ Row wr h0 28 #[.slice none 0 0, .slice none 0 0] ∧ Row wr (h0 + 1) 28 #[.slice A1 n1 c1, .slice B1 m1 d1] ∧ SL wr A1 n1 B1 m1 (deltaK ns k).2 ∧ LS wr (h0 + 2) v (deltaK ns k).1 ∧ n1 ≤ c1 ∧ m1 ≤ d1 ∧ w.grownBy wr none) (fun _ i _ => 2 * K - (intOf i).toNat)
  case atStart => exact ⟨0, 0, none, none, 0, 0, 0, 0, rfl, Nat.zero_le _, rfl, HR0.out, HR1.out, ⟨RL.none _ _, FL.none _ _⟩, LS.nil _ _, Nat.le_refl _, Nat.le_refl _, HG0.out⟩
  case round =>
    obtain ⟨k, q, A1, B1, n1, c1, m1, d1, hq, hk, rfl, hr0, hr1, hs, hls, hc1', hd1, hg⟩ := hrel
    by_cases hlt : k < K
    · have hin := (HK.out.2 k).1 hlt
      obtain ⟨VA, Vc, hvv, _⟩ := hls.al
      subst hvv
      obtain ⟨Vn, hVn⟩ : ∃ Vn, (deltaK ns k).1.length = Vn := ⟨_, rfl⟩
      rw [hVn] at hls ⊢
      obtain ⟨x, hx⟩ : ∃ x, ns[q]? = some x := ⟨_, List.getElem?_eq_getElem (by rw [Hl.out.1]; omega)⟩
      obtain ⟨y, hy⟩ : ∃ y, ns[q + 1]? = some y := ⟨_, List.getElem?_eq_getElem (by rw [Hl.out.1]; omega)⟩
      obtain ⟨g, o, rfl, hgl, hcc⟩ := (Hl.out.keep hg).2.1 (by omega)
      obtain ⟨x0, x1⟩ := Hl.out.2.2 x (List.mem_of_getElem? hx)
      obtain ⟨y0, y1⟩ := Hl.out.2.2 y (List.mem_of_getElem? hy)
      have hc0 := hcc q x hx
      have hc1 := hcc (q + 1) y hy
      have HCs : Hid (∀ W, wr.grownBy W none → W.cell? ⟨g, o + q, none⟩ = some (.int .u8 x) ∧ W.cell? ⟨g, o + (q + 1), none⟩ = some (.int .u8 y)) := fun W hW => ⟨(World.cell?_of_block (a := ⟨g, o + q, none⟩) (hW.block g hgl (by simp))).trans hc0, (World.cell?_of_block (a := ⟨g, o + (q + 1), none⟩) (hW.block g hgl (by simp))).trans hc1⟩
      obtain ⟨oo, hoo⟩ : ∃ oo, opN x y = oo := ⟨_, rfl⟩
      have Hnext : Hid (deltaK ns (k + 1) = if (doS (deltaK ns k).2 1 oo).2 = 0 then ((deltaK ns k).1 ++ [(doS (deltaK ns k).2 1 oo).1], joinS (deltaK ns k).2 (doS (deltaK ns k).2 1 oo).1) else deltaK ns k) := by
        show _ = _
        rw [deltaK, ← hq, List.getD_eq_getElem?_getD, List.getD_eq_getElem?_getD, hx, hy, Option.getD_some, Option.getD_some, hoo]
      have HB0 : Hid ((q : Int) < (n : Int)) := by show _ < _; omega
      have HB1 : Hid (((q + 1 : Nat) : Int) < (n : Int)) := by show _ < _; omega
      have Ht6 : Hid (IntKind.i64.wrap ((q : Int) + 1) = ((q + 1 : Nat) : Int)) := by show _ = _; rw [IntKind.wrap_i64]; omega
      have Ht7 : Hid (IntKind.i64.wrap ((q : Int) + 2) = ((q + 2 : Nat) : Int)) := by show _ = _; rw [IntKind.wrap_i64]; omega
      have HO : Hid (∀ W, Calls Tryd.prog 14 #[.int .u8 x, .int .u8 y] W fun e w' => e = .returned (.agg #[.int .i64 oo.kind, .string oo.key, .string oo.item, .int .i64 oo.v]) ∧ W.grownBy w' none) := fun W => by rw [← hoo]; exact op_any x y W x0 x1 y0 y1
      obtain ⟨⟨hmay, hlow0⟩, hall, _⟩ := deltaK_is ns k
      have hlow := hlow0.short hmay
      have hov : IntKind.i64.wrap oo.v = oo.v := by rw [← hoo]; show IntKind.i64.wrap (y - 100) = y - 100; rw [IntKind.wrap_i64]; omega
      have hn1 : n1 ≤ 320 := by have := hs.1.1; omega
      have hm1 : m1 ≤ 320 := by have := hs.2.1; omega
      have Hs := Lib.hid hs
      have HMay : Hid (MayS (deltaK ns k).2 ∧ Low (deltaK ns k).2 k) := ⟨hmay, hlow0⟩
      have HD : Hid (∀ W, wr.grownBy W none → Calls Tryd.prog 13 #[.agg #[.slice A1 n1 c1, .slice B1 m1 d1], .int .i64 1, .agg #[.int .i64 oo.kind, .string oo.key, .string oo.item, .int .i64 oo.v]] W (DoneIs (deltaK ns k).2 1 oo W)) := fun W hW => refDo_any A1 B1 n1 c1 m1 d1 (deltaK ns k).2 1 oo W (Hs.out.keep hW) HMay.out.1 (by omega) hov
      have HRow0 := Lib.hid hr0
      have HRow1 := Lib.hid hr1
      have Hg := Lib.hid hg
      have Hq := Lib.hid hq
      have Hlt := Lib.hid hlt
      have Hls := Lib.hid hls
      have HVn := Lib.hid hVn
      clear hVn
      have Hnm : Hid (n1 ≤ 320 ∧ m1 ≤ 320) := ⟨hn1, hm1⟩
      have Hcd : Hid (n1 ≤ c1 ∧ m1 ≤ d1) := ⟨hc1', hd1⟩
      have Hlen : Hid ((deltaK ns k).1.length ≤ 1000000) := by show _ ≤ _; have := deltaK_len ns k; have := HK.out.1; omega
      have d1' : decide (q + 1 < n) = true := decide_eq_true (by omega)
      have d2' : decide (((q + 1 : Nat) : Int) < (n : Int)) = true := decide_eq_true (by omega)
      have d3' : decide ((q : Int) < 40) = true := decide_eq_true (by omega)
      have d4' : decide (q < 40) = true := decide_eq_true (by omega)
      have t6 := Ht6.out
      clear hcc hc0 hc1 hgl hx hy hoo x0 x1 y0 y1 hs hr0 hr1 hg hq hk hlt hn1 hm1 hlow hov hc1' hd1 hls hmay hlow0 hall
      go_upto_region 6 with fail
      clear d1' d2' d3' d4' t6
      apply wp_region_told_tail (le := fun a b => a.grownBy b none) 13 _ [isV _, isV _, isV _, isV _, isV _, isV _, isV _, isV _, isV _, isV _, isV _, doV (deltaK ns k).2 1 oo, newB _ 44 #[.slice none 0 0, .slice none 0 0, .int .i64 0]]
      case hL => rfl
      case hz => rfl
      case hLd => rfl
      case hLg => rfl
      case hLw => kernel_rfl
      case hlen => rfl
      case hn => rfl
      case hm => kernel_rfl
      case hB => kernel_rfl
      case ht => exact fun _ _ _ h k => gb_none h k
      case hw => exact gb_drew (gb_refl _ _)
      -- 0: law.go:43 load
      apply told_is
      · intro W f hW hE h0 K hK
        have e4 := h0 4 (by kernel_rfl)
        conv at e4 => rhs; whnf
        clear hE h0
        refine yes_of (want_free rfl) ?_
        have z0 := (HRow1.out.kept hW (by simp)).at_ (i := 0) rfl
        have z1 := (HRow1.out.kept hW (by simp)).at_ (i := 1) rfl
        go_simp; exact hK _ _ (gb_refl _ _) rfl
      -- 1: law.go:43 move
      apply told_is
      · intro W f hW hE h0 K hK
        have e0 := h0 0 (by kernel_rfl)
        conv at e0 => rhs; whnf
        clear hE h0
        refine yes_of (want_free rfl) ?_
        go_simp; exact hK _ _ (gb_refl _ _) rfl
      -- 2: law.go:43 move
      apply told_is
      · intro W f hW hE h0 K hK
        have e6 := h0 6 (by kernel_rfl)
        conv at e6 => rhs; whnf
        clear hE h0
        refine yes_of (want_free rfl) ?_
        go_simp; exact hK _ _ (gb_refl _ _) rfl
      -- 3: law.go:43 indexAddr
      apply told_is
      · intro W f hW hE h0 K hK
        have e20 : f 20 = _ := hE 1 20 _ rfl (by kernel_rfl)
        have e21 : f 21 = _ := hE 0 21 _ rfl (by kernel_rfl)
        clear hE h0
        refine yes_of (want_free rfl) ?_
        have b0 := HB0.out
        go_simp; exact hK _ _ (gb_refl _ _) rfl
      -- 4: law.go:43 load
      apply told_is
      · intro W f hW hE h0 K hK
        have e22 : f 22 = _ := hE 0 22 _ rfl (by kernel_rfl)
        clear hE h0
        refine yes_of (want_free rfl) ?_
        obtain ⟨c0, c1⟩ := HCs.out W hW
        go_simp; exact hK _ _ (gb_refl _ _) rfl
      -- 5: law.go:43 move
      apply told_is
      · intro W f hW hE h0 K hK
        have e0 := h0 0 (by kernel_rfl)
        conv at e0 => rhs; whnf
        clear hE h0
        refine yes_of (want_free rfl) ?_
        go_simp; exact hK _ _ (gb_refl _ _) rfl
      -- 6: law.go:43 move
      apply told_is
      · intro W f hW hE h0 K hK
        have e6 := h0 6 (by kernel_rfl)
        conv at e6 => rhs; whnf
        clear hE h0
        refine yes_of (want_free rfl) ?_
        go_simp; exact hK _ _ (gb_refl _ _) rfl
      -- 7: law.go:43 binOp
      apply told_is
      · intro W f hW hE h0 K hK
        have e25 : f 25 = _ := hE 0 25 _ rfl (by kernel_rfl)
        clear hE h0
        refine yes_of (want_free rfl) ?_
        have t1 := Ht6.out
        go_simp; exact hK _ _ (gb_refl _ _) rfl
      -- 8: law.go:43 indexAddr
      apply told_is
      · intro W f hW hE h0 K hK
        have e24 : f 24 = _ := hE 2 24 _ rfl (by kernel_rfl)
        have e26 : f 26 = _ := hE 0 26 _ rfl (by kernel_rfl)
        clear hE h0
        refine yes_of (want_free rfl) ?_
        have b0 := HB1.out
        go_simp; exact hK _ _ (gb_refl _ _) rfl
      -- 9: law.go:43 load
      apply told_is
      · intro W f hW hE h0 K hK
        have e27 : f 27 = _ := hE 0 27 _ rfl (by kernel_rfl)
        clear hE h0
        refine yes_of (want_free rfl) ?_
        obtain ⟨c0, c1⟩ := HCs.out W hW
        go_simp; exact hK _ _ (gb_refl _ _) rfl
      -- 10: law.go:43 call
      apply told_is
      · intro W f hW hE h0 K hK
        have e23 : f 23 = _ := hE 5 23 _ rfl (by kernel_rfl)
        have e28 : f 28 = _ := hE 0 28 _ rfl (by kernel_rfl)
        clear hE h0
        refine yes_of (want_free rfl) ?_
        go_simp
        refine (HO.out W).mono ?_
        rintro e w1' ⟨rfl, g⟩
        exact ⟨_, rfl, hK _ _ g rfl⟩
      -- 11: law.go:43 call
      apply told_at doV_stays
      · intro W f hW hE h0 K hK
        have e19 : f 19 = _ := hE 10 19 _ rfl (by kernel_rfl)
        have e29 : f 29 = _ := hE 0 29 _ rfl (by kernel_rfl)
        clear hE h0
        refine yes_of (want_free rfl) ?_
        go_simp
        refine (HD.out W hW).mono ?_
        rintro e w1' ⟨A2, n2, c2, B2, m2, d2, rfl, h1, h2, h3, g⟩
        exact ⟨_, rfl, hK _ _ g ⟨A2, n2, c2, B2, m2, d2, rfl, h1, h2, h3⟩⟩
      -- 12: law.go:43 alloc
      apply told_at newB_stays
      · intro W f hW hE h0 K hK
        clear hE h0
        refine yes_of (want_free rfl) ?_
        go_simp
        exact hK _ _ (gb_alloc (gb_refl _ _) _) ⟨_, rfl, hW.size, Row.new _ _ _⟩
      intro W f hW hA
      simp only [lexIn, Act.put, List.setIfInBounds_toArray, List.set_cons_zero, List.set_cons_succ]
      have e30 := hA 1 (some 30) _ rfl
      have e7 := hA 0 (some 7) _ rfl
      clear hA
      obtain ⟨A2, n2, c2, B2, m2, d2, e30, hs2, hc2, hd2⟩ := e30
      rw [e30]
      obtain ⟨gq, eq_, hgN, hr⟩ := e7
      rw [eq_]
      have q0 := hr.free 0
      have q1 := hr.free 1
      have q2 := hr.free 2
      have u0 := hr.at_ (i := 0) rfl
      have u1 := hr.at_ (i := 1) rfl
      have u2 := hr.at_ (i := 2) rfl
      have k1 := gb_set1 W gq 0 (.slice A2 n2 c2)
      have r1 := hr.set_ 0 (.slice A2 n2 c2)
      have k2 := gb_set1 (W.setCell ⟨gq, 0, none⟩ (.slice A2 n2 c2)) gq 1 (.slice B2 m2 d2)
      have r2 := r1.set_ 1 (.slice B2 m2 d2)
      have k3 := gb_set1 ((W.setCell ⟨gq, 0, none⟩ (.slice A2 n2 c2)).setCell ⟨gq, 1, none⟩ (.slice B2 m2 d2)) gq 2 (.int .i64 (doS (deltaK ns k).2 1 oo).2)
      have r3 := r2.set_ 2 (.int .i64 (doS (deltaK ns k).2 1 oo).2)
      have Hs2 := Lib.hid (sl_beside3 (sl_beside3 (sl_beside3 hs2 k1 hr) k2 r1) k3 r2)
      have Hr3 := Lib.hid r3
      have Gw := Lib.hid (gb_new (gb_new (gb_new hW k1 hgN) k2 hgN) k3 hgN)
      have HgN := Lib.hid hgN
      have Hcd2 : Hid (n2 ≤ c2 ∧ m2 ≤ d2) := ⟨hc2, hd2⟩
      clear hgN hW k1 k2 k3 r1 r2 r3 hs2 hc2 hd2
      rw [ends_is]
      go_simp
      clear q0 q1 q2 u0 u1 u2 hr
      go_upto_region 7 with fail
      refine Td.named (fun W' => wr.grownBy W' none ∧ Row W' gq 44 #[.slice A2 n2 c2, .slice B2 m2 d2, .int .i64 (doS (deltaK ns k).2 1 oo).2] ∧ SL W' A2 n2 B2 m2 (doS (deltaK ns k).2 1 oo).1) ⟨Gw.out, Hr3.out, Hs2.out⟩ ?_
      rintro W8 ⟨hg8, hrow8, hs8⟩
      clear Gw Hr3 Hs2
      have HG8 := Lib.hid hg8
      have Hs8 := Lib.hid hs8
      have p0 := hrow8.at_ (i := 0) rfl
      have p1 := hrow8.at_ (i := 1) rfl
      have p2 := hrow8.at_ (i := 2) rfl
      have v0 := (HRow1.out.kept hg8 (by simp)).at_ (i := 0) rfl
      have v1 := (HRow1.out.kept hg8 (by simp)).at_ (i := 1) rfl
      obtain ⟨E, hE⟩ : ∃ E, (doS (deltaK ns k).2 1 oo).2 = E := ⟨_, rfl⟩
      have HE := Lib.hid hE
      rw [hE] at p2 hrow8
      have Hrow8 := Lib.hid hrow8
      obtain ⟨D, hD⟩ : ∃ D, (doS (deltaK ns k).2 1 oo).1 = D := ⟨_, rfl⟩
      rw [hD] at Hs8
      have HDd := Lib.hid hD
      clear hE hD hg8 hrow8 hs8
      by_cases h0E : E = 0
      · have f1 : (E == 0) = true := by rw [h0E]; rfl
        have hz : (doS (deltaK ns k).2 1 oo).2 = 0 := HE.out.trans h0E
        have hmay := do_may HMay.out.1 hz
        have hst : deltaK ns (k + 1) = ((deltaK ns k).1 ++ [D], joinS (deltaK ns k).2 D) := by rw [Hnext.out, if_pos hz, HDd.out]
        have Hst := Lib.hid hst
        have hlowD := doS_low HMay.out.1 HMay.out.2 hz
        rw [HDd.out] at hlowD hmay
        have hsh := hlowD.short hmay.1
        have hn2 : n2 ≤ 10000 := by have := Hs8.out.1.1; have := Hlt.out; have := HK.out.1; omega
        have hm2 : m2 ≤ 10000 := by have := Hs8.out.2.1; have := Hlt.out; have := HK.out.1; omega
        have HJ : Hid (Calls Tryd.prog 10 #[.agg #[.slice A1 n1 c1, .slice B1 m1 d1], .agg #[.slice A2 n2 c2, .slice B2 m2 d2]] W8 (States (joinS (deltaK ns k).2 D) W8)) := refJoin_any A1 B1 A2 B2 n1 c1 m1 d1 n2 c2 m2 d2 (deltaK ns k).2 D W8 (Hs.out.keep HG8.out) Hs8.out HMay.out.1.ss hmay.1.ss (by have := Hnm.out; omega) (by have := Hnm.out; omega) hn2 hm2
        have HR8 := Lib.hid (HRow1.out.kept HG8.out (by simp))
        clear hz hmay hst hlowD hsh hn2 hm2 h0E
        go_upto_region 9 with (go_at_call 10; refine HJ.out.mono ?_; rintro e w3 ⟨A3, n3, c3, B3, m3, d3, rfl, hs3, hc3, hd3, g3⟩; have r0 := HR8.out.kept g3 (by simp); have s0 := r0.at_ (i := 0) rfl; have s1 := r0.at_ (i := 1) rfl; have y0 := r0.free 0; have y1 := r0.free 1; have Hr0 := Lib.hid r0; have Hs3 := Lib.hid hs3; have Hg3 := Lib.hid g3; have Hcd3 : Hid (n3 ≤ c3 ∧ m3 ≤ d3) := ⟨hc3, hd3⟩; clear r0 hs3 g3 hc3 hd3)
        have k1 := gb_set1 w3 (h0 + 1) 0 (.slice A3 n3 c3)
        have k2 := gb_set1 (w3.setCell ⟨h0 + 1, 0, none⟩ (.slice A3 n3 c3)) (h0 + 1) 1 (.slice B3 m3 d3)
        have r1 := Hr0.out.set_ 0 (.slice A3 n3 c3)
        have r2 := r1.set_ 1 (.slice B3 m3 d3)
        have r00 := (((HRow0.out.kept HG8.out (by simp)).kept Hg3.out (by simp)).kept k1 (by simp)).kept k2 (by simp)
        have hs4 := sl_beside (sl_beside Hs3.out k1 Hr0.out) k2 r1
        have hs5 := sl_beside (sl_beside (Hs8.out.keep Hg3.out) k1 Hr0.out) k2 r1
        have hls4 := ((((Hls.out.keep HG8.out).keep Hg3.out).beside k1 Hr0.out (two_only _ _ _ _ _ _) (by omega)).beside k2 r1 (two_only _ _ _ _ _ _) (by omega))
        have hq8 := ((Hrow8.out.kept Hg3.out (by simp)).kept k1 (by have := HgN.out; have := HRow1.out.lt; simp; omega)).kept k2 (by have := HgN.out; have := HRow1.out.lt; simp; omega)
        have hb : w.heap.size ≤ h0 + 1 := by have := Hh0.out; omega
        have gg := gb_new (gb_new (gb_none (gb_none Hg.out HG8.out) Hg3.out) k1 hb) k2 hb
        refine Td.named (fun W' => Row W' h0 28 #[.slice none 0 0, .slice none 0 0] ∧ Row W' (h0 + 1) 28 #[.slice A3 n3 c3, .slice B3 m3 d3] ∧ SL W' A3 n3 B3 m3 (joinS (deltaK ns k).2 D) ∧ SL W' A2 n2 B2 m2 D ∧ LS W' (h0 + 2) (.slice VA Vn Vc) (deltaK ns k).1 ∧ Row W' gq 44 #[.slice A2 n2 c2, .slice B2 m2 d2, .int .i64 E] ∧ w.grownBy W' none) ⟨r00, r2, hs4, hs5, hls4, hq8, gg⟩ ?_
        rintro W9 ⟨hx1, hx2, hx3, hx4, hx5, hx6, hx7⟩
        clear k1 k2 r1 r2 r00 hs4 hs5 hls4 hq8 gg hb s0 s1 y0 y1 Hs3 Hr0 Hg3 HR8 HJ p0 p1 p2 v0 v1 f1
        have p0 := hx6.at_ (i := 0) rfl
        have p1 := hx6.at_ (i := 1) rfl
        have HB9 : Hid (h0 + 2 ≤ W9.heap.size + 0) := by show _ ≤ _; have := hx2.lt; omega
        have H1 := Lib.hid hx1
        have H2 := Lib.hid hx2
        have H3 := Lib.hid hx3
        have H4 := Lib.hid hx4
        have H5 := Lib.hid hx5
        have H7 := Lib.hid hx7
        have hrq := Row.new W9 28 #[.slice A2 n2 c2, .slice B2 m2 d2]
        have Hq0 := Lib.hid (hrq.at_ (i := 0) rfl)
        have Hq1 := Lib.hid (hrq.at_ (i := 1) rfl)
        have ga := gb_alloc (gb_refl W9 none) (.cells #[.slice A2 n2 c2, .slice B2 m2 d2] 28)
        have K1 := Lib.hid (hx1.kept ga (by simp))
        have K2 := Lib.hid (hx2.kept ga (by simp))
        have K3 := Lib.hid (hx3.keep ga)
        have K4 := Lib.hid (hx4.keep ga)
        have K5 := Lib.hid (hx5.keep ga)
        have K7 := Lib.hid (gb_none hx7 ga)
        have KB : Hid (h0 + 2 ≤ (W9.alloc (.cells #[.slice A2 n2 c2, .slice B2 m2 d2] 28)).heap.size) := by show _ ≤ _; have := HB9.out; rw [World.size_alloc]; omega
        have t7 := Ht7.out
        clear hx1 hx2 hx3 hx4 hx5 hx6 hx7 hrq ga H1 H2 H3 H4 H5 H7 HB9
        go_wp2_with (at_builtin; go_must (refine wpList_append_st rfl (.tmp 38) (.tmp 41) rfl (h0 + 2) _ (deltaK ns k).1 rfl K5.out Hlen.out KB.out K4.out Hcd2.out.1 Hcd2.out.2 W9.heap.size 1 rfl Hq0.out Hq1.out ?_); intro v3 w4 hl3 hg3; have Hl3 := Lib.hid hl3; have Hg4 := Lib.hid hg3; obtain ⟨VA3, Vc3, hv3, _⟩ := hl3.al; obtain ⟨N3, hN3⟩ : ∃ N3, ((deltaK ns k).1 ++ [D]).length = N3 := ⟨_, rfl⟩; rw [hN3] at hv3; subst hv3; clear hl3 hg3 hN3)
        go_roundw
        case rel => exact ⟨k + 1, q + 2, A3, B3, n3, c3, m3, d3, by have := Hq.out; omega, by have := Hlt.out; omega, rfl, K1.out.kept Hg4.out (fun e => by have := K5.out.far _ e.symm; omega), K2.out.kept Hg4.out (fun e => by have := K5.out.far _ e.symm; omega), by rw [Hst.out]; exact K5.out.other Hg4.out K3.out, by rw [Hst.out]; exact Hl3.out, Hcd3.out.1, Hcd3.out.2, gb_step K7.out Hg4.out fun i e => .inr (by have := K5.out.far i e; have := Hh0.out; omega)⟩
        case measure => simp [intOf]; have := Hq.out; have := Hlt.out; omega
      · have f1 : (E == 0) = false := by rw [beq_eq_false_iff_ne]; exact h0E
        have hst : deltaK ns (k + 1) = deltaK ns k := by rw [Hnext.out, if_neg (by rw [HE.out]; exact h0E)]
        have Hst := Lib.hid hst
        have t7 := Ht7.out
        clear h0E hst
        go_wp2_with fail
        go_roundw
        case rel => exact ⟨k + 1, q + 2, A1, B1, n1, c1, m1, d1, by have := Hq.out; omega, by have := Hlt.out; omega, rfl, HRow0.out.kept HG8.out (by simp), HRow1.out.kept HG8.out (by simp), by rw [Hst.out]; exact Hs.out.keep HG8.out, by rw [Hst.out]; exact Hls.out.keep HG8.out, Hcd.out.1, Hcd.out.2, gb_none Hg.out HG8.out⟩
        case measure => simp [intOf]; have := Hq.out; have := Hlt.out; omega
    · have hkK : k = K := by omega
      subst hkK
      have t6 : IntKind.i64.wrap ((q : Int) + 1) = ((q + 1 : Nat) : Int) := by rw [IntKind.wrap_i64]; have := HK.out.1; omega
      obtain ⟨VA, Vc, hvv, _⟩ := hls.al
      subst hvv
      obtain ⟨Vn, hVn⟩ : ∃ Vn, (deltaK ns k).1.length = Vn := ⟨_, rfl⟩
      rw [hVn] at hls ⊢
      have HVn := Lib.hid hVn
      clear hVn
      have hout : ¬ (q + 1 < n ∧ q < 40) := fun h => by have := (HK.out.2 k).2 ⟨by omega, by omega⟩; omega
      have HR0 := Lib.hid hr0
      have HR1 := Lib.hid hr1
      have Hs := Lib.hid hs
      have Hls := Lib.hid hls
      have Hg := Lib.hid hg
      have Hcd : Hid (n1 ≤ c1 ∧ m1 ≤ d1) := ⟨hc1', hd1⟩
      clear hr0 hr1 hs hg hc1' hd1 hlt hq hk hls
      by_cases hz : q + 1 < n
      · have d1' : decide (q + 1 < n) = true := decide_eq_true hz
        have d2' : decide (((q + 1 : Nat) : Int) < (n : Int)) = true := decide_eq_true (by omega)
        have d5' : decide ((q : Int) + 1 < (n : Int)) = true := decide_eq_true (by omega)
        have d3' : decide ((q : Int) < 40) = false := decide_eq_false (by omega)
        have d4' : decide (q < 40) = false := decide_eq_false (by omega)
        clear hz hout
        go_upto_region 10 with fail
        apply wp_region_told_tail (le := fun a b => a.grownBy b none) 3 _ [isV _, isV _, isV _]
        case hL => rfl
        case hz => rfl
        case hLd => rfl
        case hLg => rfl
        case hLw => kernel_rfl
        case hlen => rfl
        case hn => rfl
        case hm => kernel_rfl
        case hB => kernel_rfl
        case ht => exact fun _ _ _ h k => gb_none h k
        case hw => exact gb_drew (gb_refl _ _)
        -- 0: law.go:49 move
        apply told_is
        · intro W f hW hE h0 K hK
          have e5 := h0 5 (by kernel_rfl)
          conv at e5 => rhs; whnf
          clear hE h0
          refine yes_of (want_free rfl) ?_
          go_simp; exact hK _ _ (gb_refl _ _) rfl
        -- 1: law.go:49 load
        apply told_is
        · intro W f hW hE h0 K hK
          have e4 := h0 4 (by kernel_rfl)
          conv at e4 => rhs; whnf
          clear hE h0
          refine yes_of (want_free rfl) ?_
          have z0 := (HR1.out.kept hW (by simp)).at_ (i := 0) rfl
          have z1 := (HR1.out.kept hW (by simp)).at_ (i := 1) rfl
          go_simp; exact hK _ _ (gb_refl _ _) rfl
        -- 2: law.go:49 assign
        apply told_is
        · intro W f hW hE h0 K hK
          have e43 : f 43 = _ := hE 1 43 _ rfl (by kernel_rfl)
          clear hE h0
          refine yes_of (want_free rfl) ?_
          go_simp; exact hK _ _ (gb_refl _ _) rfl
        intro W f hW hA
        simp only [lexIn, Act.put, List.setIfInBounds_toArray, List.set_cons_zero, List.set_cons_succ]
        have e44 : f 44 = _ := hA 1 (some 44) _ rfl
        rw [e44]
        have e2 : f 2 = _ := hA 0 (some 2) _ rfl
        rw [e2]
        clear hA
        have hr := HR0.out.kept hW (by simp)
        have q0 := hr.free 0
        have q1 := hr.free 1
        have u0 := hr.at_ (i := 0) rfl
        have u1 := hr.at_ (i := 1) rfl
        have k1 := gb_set1 W h0 0 (.slice A1 n1 c1)
        have k2 := gb_set1 (W.setCell ⟨h0, 0, none⟩ (.slice A1 n1 c1)) h0 1 (.slice B1 m1 d1)
        have r1 := hr.set_ 0 (.slice A1 n1 c1)
        have r2 := r1.set_ 1 (.slice B1 m1 d1)
        have hb : w.heap.size ≤ h0 := by have := Hh0.out; omega
        have HF : Hid _ := And.intro (sl_beside (sl_beside (Hs.out.keep hW) k1 hr) k2 r1) (And.intro (((Hls.out.keep hW).beside k1 hr (two_only _ _ _ _ _ _) (by omega)).beside k2 r1 (two_only _ _ _ _ _ _) (by omega)) (gb_new (gb_new (gb_none Hg.out hW) k1 hb) k2 hb))
        have z0 := r2.at_ (i := 0) rfl
        have z1 := r2.at_ (i := 1) rfl
        clear hW k1 k2 r1 r2 hb hr
        rw [ends_is]
        go_simp
        clear q0 q1 u0 u1
        go_wp2_with fail
        refine bodyPost_ret (v := .tuple #[.slice VA Vn Vc, .agg #[.slice A1 n1 c1, .slice B1 m1 d1]]) (by simp [results, Tryd.results5, go_sem, z0, z1]) rfl ?_
        exact ⟨_, A1, n1, c1, B1, m1, d1, rfl, HF.out.2.1.low (by have := Hh0.out; omega), HF.out.1, Hcd.out.1, Hcd.out.2, HF.out.2.2⟩
      · have d1' : decide (q + 1 < n) = false := decide_eq_false hz
        have d2' : decide (((q + 1 : Nat) : Int) < (n : Int)) = false := decide_eq_false (by omega)
        have d5' : decide ((q : Int) + 1 < (n : Int)) = false := decide_eq_false (by omega)
        clear hz hout
        go_upto_region 10 with fail
        apply wp_region_told_tail (le := fun a b => a.grownBy b none) 3 _ [isV _, isV _, isV _]
        case hL => rfl
        case hz => rfl
        case hLd => rfl
        case hLg => rfl
        case hLw => kernel_rfl
        case hlen => rfl
        case hn => rfl
        case hm => kernel_rfl
        case hB => kernel_rfl
        case ht => exact fun _ _ _ h k => gb_none h k
        case hw => exact gb_drew (gb_refl _ _)
        -- 0: law.go:49 move
        apply told_is
        · intro W f hW hE h0 K hK
          have e5 := h0 5 (by kernel_rfl)
          conv at e5 => rhs; whnf
          clear hE h0
          refine yes_of (want_free rfl) ?_
          go_simp; exact hK _ _ (gb_refl _ _) rfl
        -- 1: law.go:49 load
        apply told_is
        · intro W f hW hE h0 K hK
          have e4 := h0 4 (by kernel_rfl)
          conv at e4 => rhs; whnf
          clear hE h0
          refine yes_of (want_free rfl) ?_
          have z0 := (HR1.out.kept hW (by simp)).at_ (i := 0) rfl
          have z1 := (HR1.out.kept hW (by simp)).at_ (i := 1) rfl
          go_simp; exact hK _ _ (gb_refl _ _) rfl
        -- 2: law.go:49 assign
        apply told_is
        · intro W f hW hE h0 K hK
          have e43 : f 43 = _ := hE 1 43 _ rfl (by kernel_rfl)
          clear hE h0
          refine yes_of (want_free rfl) ?_
          go_simp; exact hK _ _ (gb_refl _ _) rfl
        intro W f hW hA
        simp only [lexIn, Act.put, List.setIfInBounds_toArray, List.set_cons_zero, List.set_cons_succ]
        have e44 : f 44 = _ := hA 1 (some 44) _ rfl
        rw [e44]
        have e2 : f 2 = _ := hA 0 (some 2) _ rfl
        rw [e2]
        clear hA
        have hr := HR0.out.kept hW (by simp)
        have q0 := hr.free 0
        have q1 := hr.free 1
        have u0 := hr.at_ (i := 0) rfl
        have u1 := hr.at_ (i := 1) rfl
        have k1 := gb_set1 W h0 0 (.slice A1 n1 c1)
        have k2 := gb_set1 (W.setCell ⟨h0, 0, none⟩ (.slice A1 n1 c1)) h0 1 (.slice B1 m1 d1)
        have r1 := hr.set_ 0 (.slice A1 n1 c1)
        have r2 := r1.set_ 1 (.slice B1 m1 d1)
        have hb : w.heap.size ≤ h0 := by have := Hh0.out; omega
        have HF : Hid _ := And.intro (sl_beside (sl_beside (Hs.out.keep hW) k1 hr) k2 r1) (And.intro (((Hls.out.keep hW).beside k1 hr (two_only _ _ _ _ _ _) (by omega)).beside k2 r1 (two_only _ _ _ _ _ _) (by omega)) (gb_new (gb_new (gb_none Hg.out hW) k1 hb) k2 hb))
        have z0 := r2.at_ (i := 0) rfl
        have z1 := r2.at_ (i := 1) rfl
        clear hW k1 k2 r1 r2 hb hr
        rw [ends_is]
        go_simp
        clear q0 q1 u0 u1
        go_wp2_with fail
        refine bodyPost_ret (v := .tuple #[.slice VA Vn Vc, .agg #[.slice A1 n1 c1, .slice B1 m1 d1]]) (by simp [results, Tryd.results5, go_sem, z0, z1]) rfl ?_
        exact ⟨_, A1, n1, c1, B1, m1, d1, rfl, HF.out.2.1.low (by have := Hh0.out; omega), HF.out.1, Hcd.out.1, Hcd.out.2, HF.out.2.2⟩
end Go.Proofs.YtbdpckphlagijaaDoor.Bf
