/- May of a state: the program's and the document's. -/
import Derived.Test.YthijiefopcnclaaGreatDoorFtA
import Derived.Test.YthijiefopcnclaaGreatDoorDtPMay
import Derived.Test.YthijiefopcnclaaGreatDoorDtB
import Derived.Test.YthijiefopcnclaaGreatDoorDtE
namespace Go.Proofs.YthijiefopcnclaaGreatDoor.Dt
open Go Go.RowKit Go.Proofs.YthijiefopcnclaaGreatDoor.Mm Go.Proofs.YthijiefopcnclaaGreatDoor.Td

theorem MayIs.b {l : List Rn} {w w' : World} {e : Ending} (h : MayIs l w e w') : BoolIs (May l) w e w' := h
/-- Facts as far as they have been looked at. -/
def Good (rs : List Rn) (l : List Fc) : Prop := (∀ f ∈ l, RightF f ∧ Has rs f.d f.n) ∧ Sor l
theorem good_nil (rs : List Rn) : Good rs [] := ⟨fun _ h => by simp at h, List.Pairwise.nil⟩
theorem sor_snoc {l : List Fc} {z x : Fc} (h : Sor (l ++ [z])) (hz : FLt z x) : Sor (l ++ [z] ++ [x]) := by
  refine List.pairwise_append.2 ⟨h, List.pairwise_singleton _ _, fun y hy b hb => ?_⟩
  rw [List.mem_singleton.1 hb]
  rcases List.mem_append.1 hy with h1 | h1
  · exact ((List.pairwise_append.1 h).2.2 y h1 z (by simp)).trans hz
  · rw [List.mem_singleton.1 h1]; exact hz
theorem good_next {rs : List Rn} {l : List Fc} {k : Nat} {x : Fc} (h : Good rs (l.take k)) (hx : l[k]? = some x) (hr : RightF x) (hh : Has rs x.d x.n) (hs : k = 0 ∨ ∃ j z, k = j + 1 ∧ l[j]? = some z ∧ FLt z x) : Good rs (l.take (k + 1)) := by
  rw [ftake_more hx]
  refine ⟨fun f hf => ?_, ?_⟩
  · rcases List.mem_append.1 hf with h1 | h1
    · exact h.1 f h1
    · rw [List.mem_singleton.1 h1]; exact ⟨hr, hh⟩
  · rcases hs with rfl | ⟨j, z, rfl, hz, hl⟩
    · rw [List.take_zero]; exact List.pairwise_singleton _ _
    · have h2 := h.2
      rw [ftake_more hz] at h2 ⊢
      exact sor_snoc h2 hl
theorem not_right {rs : List Rn} {l : List Fc} {k : Nat} {x : Fc} (hx : l[k]? = some x) (h : ¬ RightF x) : ¬ MayS ⟨rs, l⟩ := fun hm => h (hm.2.2.1 x (List.mem_of_getElem? hx)).1
theorem not_has {rs : List Rn} {l : List Fc} {k : Nat} {x : Fc} (hx : l[k]? = some x) (h : ¬ Has rs x.d x.n) : ¬ MayS ⟨rs, l⟩ := fun hm => h (hm.2.2.1 x (List.mem_of_getElem? hx)).2
theorem not_next {rs : List Rn} {l : List Fc} {j : Nat} {z x : Fc} (hz : l[j]? = some z) (hx : l[j + 1]? = some x) (h : ¬ FLt z x) : ¬ MayS ⟨rs, l⟩ := fun hm => h (by
  obtain ⟨hi, rfl⟩ := List.getElem?_eq_some_iff.1 hz
  obtain ⟨hj, rfl⟩ := List.getElem?_eq_some_iff.1 hx
  exact List.pairwise_iff_getElem.1 hm.2.2.2 j (j + 1) hi hj (Nat.lt_succ_self _))
theorem cmp_ge (z x : Fc) : decide (0 ≤ cmpD z.d z.n x.d x.n) = !decide (FLt z x) := by
  by_cases h : FLt z x
  · rw [cmp_lt h, decide_eq_true h]; rfl
  · rw [decide_eq_false h]
    by_cases h2 : z.d = x.d ∧ z.n = x.n
    · rw [cmp_is h h2]; rfl
    · rw [cmp_gt h h2]; rfl
theorem box6 (w : World) (x : Fc) (t : TypeId) : At6 (w.alloc (.cells #[.int .i64 x.d, .int .i64 x.n, .string x.key, .int .i64 x.kind, .string x.item, .int .i64 x.v] t)) w.heap.size 0 x :=
  have h := Row.new w t #[.int .i64 x.d, .int .i64 x.n, .string x.key, .int .i64 x.kind, .string x.item, .int .i64 x.v]
  ⟨h.at_ (i := 0) rfl, h.at_ (i := 1) rfl, h.at_ (i := 2) rfl, h.at_ (i := 3) rfl, h.at_ (i := 4) rfl, h.at_ (i := 5) rfl⟩
attribute [local go_sem] Td.upon_value Td.upon_skip Td.upon_enter Td.upon_row Td.look_tmp Td.look_const Td.look_func Td.look_global

set_option maxHeartbeats 16000000 in
set_option maxRecDepth 100000 in
theorem pMayS_any (A B : Option Addr) (p c n d : Nat) (s : St) (w : World) (hs : SL w A p B n s) (hp : p ≤ 100000) (hn : n ≤ 1099511627776) :
    Calls Tryz.prog 50 #[.agg #[.slice A p c, .slice B n d]] w (BoolIs (MayS s) w) := by
  obtain ⟨rs, l⟩ := s
  obtain ⟨W0, hW0⟩ : ∃ W0, w.alloc (.cells #[.slice A p c, .slice B n d] 25) = W0 := ⟨_, rfl⟩
  have G0 : w.grownBy W0 none := by rw [← hW0]; exact gb_alloc (gb_refl _ _) _
  have hr0 : Row W0 w.heap.size 25 #[.slice A p c, .slice B n d] := by rw [← hW0]; exact Row.new _ _ _
  have HC : Hid (∀ W, W0.grownBy W none → W.cell? ⟨w.heap.size, 0, none⟩ = some (.slice A p c) ∧ W.cell? ⟨w.heap.size, 1, none⟩ = some (.slice B n d)) :=
    fun W hW => ⟨(hr0.kept hW (by simp)).at_ (i := 0) rfl, (hr0.kept hW (by simp)).at_ (i := 1) rfl⟩
  have Hs := Lib.hid (hs.keep G0)
  have HG := Lib.hid G0
  obtain ⟨z0, z1⟩ := HC.out W0 (gb_refl _ _)
  clear hr0 hs G0
  have Hm := Lib.hid (pMay_any A p c rs W0 Hs.out.1 (by omega))
  have Hp := Lib.hid hp
  by_cases h4 : n ≤ 400
  · have a1 : decide (400 < n) = false := decide_eq_false (by omega)
    have a2 : decide ((400 : Int) < (n : Int)) = false := decide_eq_false (by omega)
    have H4 := Lib.hid h4
    clear h4
    by_cases hmay : May rs
    · have Hans : Hid (∀ e w', MayIs rs W0 e w' → e = .returned (.bool true) ∧ W0.grownBy w' none) := fun e w' h => h.b.yes hmay
      have Hmay := Lib.hid hmay
      clear hmay
      go_enter Tryz.func50, Tryz.ntmps50
      go_upto_region 1 with fail
      clear hW0
      go_wp2_with (go_at_call 73; refine Hm.out.mono ?_; intro e W1 hh; obtain ⟨he, g1⟩ := Hans.out e W1 hh; clear hh; subst he; obtain ⟨k0, k1⟩ := HC.out W1 g1)
      have HC1 : Hid (∀ W, W1.grownBy W none → W.cell? ⟨w.heap.size, 0, none⟩ = some (.slice A p c) ∧ W.cell? ⟨w.heap.size, 1, none⟩ = some (.slice B n d)) := fun W hW => HC.out W (gb_none g1 hW)
      have HG1 : Hid (w.grownBy W1 none) := gb_none HG.out g1
      have Hr := Lib.hid (Hs.out.1.keep g1)
      have Hl := Lib.hid (Hs.out.2.keep g1)
      clear z0 z1 g1
      go_loopw [18] (fun i wr => ∃ k : Nat, k ≤ n ∧ i = .int .i64 k ∧ Hid (Good rs (l.take k)) ∧ W1.grownBy wr none) (fun i _ => n - (intOf i).toNat)
      case atStart => exact ⟨0, Nat.zero_le _, rfl, good_nil rs, gb_refl _ _⟩
      case round =>
        obtain ⟨k, hk, rfl, HX, hg⟩ := hrel
        obtain ⟨y0, y1⟩ := HC1.out wr hg
        by_cases hlt : k < n
        · have d1 : decide (k < n) = true := decide_eq_true hlt
          have d2 : decide ((k : Int) < (n : Int)) = true := decide_eq_true (by omega)
          have bk : (k : Int) < (n : Int) := by omega
          obtain ⟨g, o, rfl, hgl, hcc⟩ := (Hl.out.keep hg).2 (by omega)
          obtain ⟨x, hx⟩ : ∃ x, l[k]? = some x := ⟨_, List.getElem?_eq_getElem (by rw [Hl.out.1]; exact hlt)⟩
          obtain ⟨h0, h1, h2, h3, h4, h5⟩ := hcc k x hx
          have HCC := Lib.hid hcc
          have Hx := Lib.hid hx
          have Hgl := Lib.hid hgl
          have hga := gb_alloc hg (.cells #[.int .i64 x.d, .int .i64 x.n, .string x.key, .int .i64 x.kind, .string x.item, .int .i64 x.v] 46)
          have HB : Hid (∀ W, (wr.alloc (.cells #[.int .i64 x.d, .int .i64 x.n, .string x.key, .int .i64 x.kind, .string x.item, .int .i64 x.v] 46)).grownBy W none → W.cell? ⟨w.heap.size, 0, none⟩ = some (.slice A p c) ∧ W.cell? ⟨w.heap.size, 1, none⟩ = some (.slice (some ⟨g, o, none⟩) n d) ∧ At6 W wr.heap.size 0 x) :=
            fun W hW => ⟨(HC1.out W (gb_none hga hW)).1, (HC1.out W (gb_none hga hW)).2, (box6 wr x _).keep (by rw [World.size_alloc]; omega) hW⟩
          have HH : Hid (∀ W, (wr.alloc (.cells #[.int .i64 x.d, .int .i64 x.n, .string x.key, .int .i64 x.kind, .string x.item, .int .i64 x.v] 46)).grownBy W none → Calls Tryz.prog 75 #[.slice A p c, .agg #[.int .i64 x.d, .int .i64 x.n]] W fun e w' => e = .returned (.bool (hasB rs x.d x.n)) ∧ W.grownBy w' none) :=
            fun W hW => pHas_any A p c rs x.d x.n W (Hr.out.keep (gb_none hga hW)) Hmay.out Hp.out
          have Hg := Lib.hid hga
          clear hcc hx hgl hga hg
          by_cases hr : RightF x
          · have HR : Hid (decide (RightF x) = true) := decide_eq_true hr
            have Hri := Lib.hid hr
            clear hr
            by_cases hh : Has rs x.d x.n
            · have HhB : Hid (hasB rs x.d x.n = true) := (hasB_iff _ _ _).2 hh
              have Hha := Lib.hid hh
              clear hh
              by_cases hk0 : k = 0
              · have Hk1 : Hid (decide (0 < k) = false) := decide_eq_false (by omega)
                have Hk2 : Hid (decide ((0 : Int) < (k : Int)) = false) := decide_eq_false (by omega)
                have Hnext : Hid (Good rs (l.take (k + 1))) := good_next HX.out Hx.out Hri.out Hha.out (.inl hk0)
                clear hk0
                go_upto_region 6 with fail
                go_wp2_with (go_at_call 74; refine (pRight_any x _).mono ?_; rintro e w2 ⟨he, g2⟩; rw [HR.out] at he; subst he; obtain ⟨u0, u1, u2⟩ := HB.out w2 g2; obtain ⟨v0, v1, v2, v3, v4, v5⟩ := u2; have HH2 := Lib.hid (HH.out w2 g2))
                go_wp2_with (go_at_call 75; refine HH2.out.mono ?_; rintro e w3 ⟨he, g3⟩; rw [HhB.out] at he; subst he)
                have h1 := Hk1.out
                have h2 := Hk2.out
                have HG3 := Lib.hid (gb_none Hg.out (gb_none g2 g3))
                clear g2 g3
                go_quiet (fail)
                go_wp2_with fail
                go_roundw
                case rel => exact ⟨k + 1, by omega, by go_num, Hnext, gb_drewN HG3.out _⟩
                case measure => simp [intOf]; omega
              · obtain ⟨j, hj⟩ : ∃ j, k = j + 1 := ⟨k - 1, by omega⟩
                obtain ⟨z, hz⟩ : ∃ z, l[j]? = some z := ⟨_, List.getElem?_eq_getElem (by rw [Hl.out.1]; omega)⟩
                have Hk1 : Hid (decide (0 < k) = true) := decide_eq_true (by omega)
                have Hk2 : Hid (decide ((0 : Int) < (k : Int)) = true) := decide_eq_true (by omega)
                have Hw : Hid (IntKind.i64.wrap ((k : Int) - 1) = (j : Int)) := by show _ = _; rw [IntKind.wrap_i64]; omega
                have bj : (j : Int) < (n : Int) := by omega
                have HZ : Hid (∀ W, (wr.alloc (.cells #[.int .i64 x.d, .int .i64 x.n, .string x.key, .int .i64 x.kind, .string x.item, .int .i64 x.v] 46)).grownBy W none → At6 W g (o + j * 6) z) := fun W hW => (HCC.out j z hz).keep Hgl.out (gb_none (gb_alloc (gb_refl wr none) _) hW)
                obtain ⟨cv, hcv⟩ : ∃ cv, cmpD z.d z.n x.d x.n = cv := ⟨_, rfl⟩
                have hge := cmp_ge z x
                rw [hcv] at hge
                have HCV := Lib.hid hcv
                have Hz := Lib.hid hz
                have Hj := Lib.hid hj
                clear hj hz hcv hk0
                by_cases hf : FLt z x
                · have Hq : Hid (decide (0 ≤ cv) = false) := by show _ = _; rw [hge, decide_eq_true hf]; rfl
                  have Hnext : Hid (Good rs (l.take (k + 1))) := good_next HX.out Hx.out Hri.out Hha.out (.inr ⟨j, z, Hj.out, Hz.out, hf⟩)
                  clear hge hf
                  go_upto_region 6 with fail
                  go_wp2_with (go_at_call 74; refine (pRight_any x _).mono ?_; rintro e w2 ⟨he, g2⟩; rw [HR.out] at he; subst he; obtain ⟨u0, u1, u2⟩ := HB.out w2 g2; obtain ⟨v0, v1, v2, v3, v4, v5⟩ := u2; have HH2 := Lib.hid (HH.out w2 g2))
                  go_upto_region 8 with (go_at_call 75; refine HH2.out.mono ?_; rintro e w3 ⟨he, g3⟩; rw [HhB.out] at he; subst he)
                  have HG3 := Lib.hid (gb_none Hg.out (gb_none g2 g3))
                  have HK : Hid (∀ W, w3.grownBy W none → W.cell? ⟨w.heap.size, 0, none⟩ = some (.slice A p c) ∧ W.cell? ⟨w.heap.size, 1, none⟩ = some (.slice (some ⟨g, o, none⟩) n d) ∧ At6 W wr.heap.size 0 x ∧ At6 W g (o + j * 6) z) := fun W hW => ⟨(HB.out W (gb_none (gb_none g2 g3) hW)).1, (HB.out W (gb_none (gb_none g2 g3) hW)).2.1, (HB.out W (gb_none (gb_none g2 g3) hW)).2.2, HZ.out W (gb_none (gb_none g2 g3) hW)⟩
                  clear g2 g3 u0 u1 v0 v1 v2 v3 v4 v5 y0 y1 h0 h1 h2 h3 h4 h5
                  apply wp_region_told (le := fun a b => a.grownBy b none) [isV _, isV _, isV _, isV _, isV _, isV _, isV _, isV _, isV _, isV _, isV _, isV _, isV _, isV _, isV _]
                  case hn => rfl
                  case hm => kernel_rfl
                  case hB => kernel_rfl
                  case ht => exact fun _ _ _ h k => gb_none h k
                  case hw => exact gb_drew (gb_refl _ _)
                  -- 0: facts.go:42 move
                  apply told_is
                  · intro W f hW hE h0 K hK
                    have e3 := h0 3 (by kernel_rfl)
                    conv at e3 => rhs; whnf
                    clear hE h0
                    refine yes_of (want_free rfl) ?_
                    go_simp; exact hK _ _ (gb_refl _ _) rfl
                  -- 1: facts.go:42 binOp
                  apply told_is
                  · intro W f hW hE h0 K hK
                    have e34 : f 34 = _ := hE 0 34 _ rfl (by kernel_rfl)
                    clear hE h0
                    refine yes_of (want_free rfl) ?_
                    have h1 := Hk1.out
                    have h2 := Hk2.out
                    go_simp; exact hK _ _ (gb_refl _ _) rfl
                  -- 2: facts.go:42 move
                  apply told_is
                  · intro W f hW hE h0 K hK
                    have e35 : f 35 = _ := hE 0 35 _ rfl (by kernel_rfl)
                    clear hE h0
                    refine yes_of (want_free rfl) ?_
                    go_simp; exact hK _ _ (gb_refl _ _) rfl
                  -- 3: facts.go:42 fieldAddr
                  apply told_is
                  · intro W f hW hE h0 K hK
                    have e1 := h0 1 (by kernel_rfl)
                    conv at e1 => rhs; whnf
                    have e36 : f 36 = _ := hE 0 36 _ rfl (by kernel_rfl)
                    clear hE h0
                    refine yes_of (want_yes rfl rfl e36) ?_
                    go_simp; exact hK _ _ (gb_refl _ _) rfl
                  -- 4: facts.go:42 load
                  apply told_is
                  · intro W f hW hE h0 K hK
                    have e37 : f 37 = _ := hE 0 37 _ rfl (by kernel_rfl)
                    have e36 : f 36 = _ := hE 1 36 _ rfl (by kernel_rfl)
                    clear hE h0
                    refine yes_of (want_yes rfl rfl e36) ?_
                    obtain ⟨y0, y1, y2, y3⟩ := HK.out W hW
                    go_simp; exact hK _ _ (gb_refl _ _) rfl
                  -- 5: facts.go:42 move
                  apply told_is
                  · intro W f hW hE h0 K hK
                    have e3 := h0 3 (by kernel_rfl)
                    conv at e3 => rhs; whnf
                    have e36 : f 36 = _ := hE 2 36 _ rfl (by kernel_rfl)
                    clear hE h0
                    refine yes_of (want_yes rfl rfl e36) ?_
                    go_simp; exact hK _ _ (gb_refl _ _) rfl
                  -- 6: facts.go:42 binOp
                  apply told_is
                  · intro W f hW hE h0 K hK
                    have e39 : f 39 = _ := hE 0 39 _ rfl (by kernel_rfl)
                    have e36 : f 36 = _ := hE 3 36 _ rfl (by kernel_rfl)
                    clear hE h0
                    refine yes_of (want_yes rfl rfl e36) ?_
                    have hw := Hw.out
                    go_simp; exact hK _ _ (gb_refl _ _) rfl
                  -- 7: facts.go:42 indexAddr
                  apply told_is
                  · intro W f hW hE h0 K hK
                    have e38 : f 38 = _ := hE 2 38 _ rfl (by kernel_rfl)
                    have e40 : f 40 = _ := hE 0 40 _ rfl (by kernel_rfl)
                    have e36 : f 36 = _ := hE 4 36 _ rfl (by kernel_rfl)
                    clear hE h0
                    refine yes_of (want_yes rfl rfl e36) ?_
                    go_simp; exact hK _ _ (gb_refl _ _) rfl
                  -- 8: facts.go:42 fieldAddr
                  apply told_is
                  · intro W f hW hE h0 K hK
                    have e41 : f 41 = _ := hE 0 41 _ rfl (by kernel_rfl)
                    have e36 : f 36 = _ := hE 5 36 _ rfl (by kernel_rfl)
                    clear hE h0
                    refine yes_of (want_yes rfl rfl e36) ?_
                    go_simp; exact hK _ _ (gb_refl _ _) rfl
                  -- 9: facts.go:42 load
                  apply told_is
                  · intro W f hW hE h0 K hK
                    have e42 : f 42 = _ := hE 0 42 _ rfl (by kernel_rfl)
                    have e36 : f 36 = _ := hE 6 36 _ rfl (by kernel_rfl)
                    clear hE h0
                    refine yes_of (want_yes rfl rfl e36) ?_
                    obtain ⟨y0, y1, y2, y3⟩ := HK.out W hW
                    obtain ⟨q0, q1, q2, q3, q4, q5⟩ := y3
                    go_simp; exact hK _ _ (gb_refl _ _) rfl
                  -- 10: facts.go:42 fieldAddr
                  apply told_is
                  · intro W f hW hE h0 K hK
                    have e4 := h0 4 (by kernel_rfl)
                    conv at e4 => rhs; whnf
                    have e36 : f 36 = _ := hE 7 36 _ rfl (by kernel_rfl)
                    clear hE h0
                    refine yes_of (want_yes rfl rfl e36) ?_
                    go_simp; exact hK _ _ (gb_refl _ _) rfl
                  -- 11: facts.go:42 load
                  apply told_is
                  · intro W f hW hE h0 K hK
                    have e44 : f 44 = _ := hE 0 44 _ rfl (by kernel_rfl)
                    have e36 : f 36 = _ := hE 8 36 _ rfl (by kernel_rfl)
                    clear hE h0
                    refine yes_of (want_yes rfl rfl e36) ?_
                    obtain ⟨y0, y1, y2, y3⟩ := HK.out W hW
                    obtain ⟨q0, q1, q2, q3, q4, q5⟩ := y2
                    go_simp; exact hK _ _ (gb_refl _ _) rfl
                  -- 12: facts.go:42 call
                  apply told_is
                  · intro W f hW hE h0 K hK
                    have e43 : f 43 = _ := hE 2 43 _ rfl (by kernel_rfl)
                    have e45 : f 45 = _ := hE 0 45 _ rfl (by kernel_rfl)
                    have e36 : f 36 = _ := hE 9 36 _ rfl (by kernel_rfl)
                    clear hE h0
                    refine yes_of (want_yes rfl rfl e36) ?_
                    go_simp
                    refine (pCmp_any _ _ _ _ _).mono ?_
                    rintro e w1' ⟨he, g⟩; rw [HCV.out] at he; subst he
                    exact ⟨_, rfl, hK _ _ g.gb rfl⟩
                  -- 13: facts.go:42 binOp
                  apply told_is
                  · intro W f hW hE h0 K hK
                    have e46 : f 46 = _ := hE 0 46 _ rfl (by kernel_rfl)
                    have e36 : f 36 = _ := hE 10 36 _ rfl (by kernel_rfl)
                    clear hE h0
                    refine yes_of (want_yes rfl rfl e36) ?_
                    have hq := Hq.out
                    go_simp; exact hK _ _ (gb_refl _ _) rfl
                  -- 14: facts.go:42 pick
                  apply told_is
                  · intro W f hW hE h0 K hK
                    have e36 : f 36 = _ := hE 11 36 _ rfl (by kernel_rfl)
                    have e47 : f 47 = _ := hE 0 47 _ rfl (by kernel_rfl)
                    clear hE h0
                    refine yes_of (want_free rfl) ?_
                    go_simp; exact hK _ _ (gb_refl _ _) rfl
                  intro W f hW hA
                  simp only [lexIn, Act.put, List.setIfInBounds_toArray, List.set_cons_zero, List.set_cons_succ]
                  have e48 : f 48 = _ := hA 0 (some 48) _ rfl
                  rw [e48]
                  clear hA
                  go_wp2_with fail
                  go_roundw
                  case rel => exact ⟨k + 1, by omega, by go_num, Hnext, gb_none HG3.out hW⟩
                  case measure => simp [intOf]; omega
                · have Hq : Hid (decide (0 ≤ cv) = true) := by show _ = _; rw [hge, decide_eq_false hf]; rfl
                  have Hno : Hid (¬ MayS ⟨rs, l⟩) := not_next Hz.out (by rw [← Hj.out]; exact Hx.out) hf
                  clear hge hf
                  go_upto_region 6 with fail
                  go_wp2_with (go_at_call 74; refine (pRight_any x _).mono ?_; rintro e w2 ⟨he, g2⟩; rw [HR.out] at he; subst he; obtain ⟨u0, u1, u2⟩ := HB.out w2 g2; obtain ⟨v0, v1, v2, v3, v4, v5⟩ := u2; have HH2 := Lib.hid (HH.out w2 g2))
                  go_upto_region 8 with (go_at_call 75; refine HH2.out.mono ?_; rintro e w3 ⟨he, g3⟩; rw [HhB.out] at he; subst he)
                  have HG3 := Lib.hid (gb_none Hg.out (gb_none g2 g3))
                  have HK : Hid (∀ W, w3.grownBy W none → W.cell? ⟨w.heap.size, 0, none⟩ = some (.slice A p c) ∧ W.cell? ⟨w.heap.size, 1, none⟩ = some (.slice (some ⟨g, o, none⟩) n d) ∧ At6 W wr.heap.size 0 x ∧ At6 W g (o + j * 6) z) := fun W hW => ⟨(HB.out W (gb_none (gb_none g2 g3) hW)).1, (HB.out W (gb_none (gb_none g2 g3) hW)).2.1, (HB.out W (gb_none (gb_none g2 g3) hW)).2.2, HZ.out W (gb_none (gb_none g2 g3) hW)⟩
                  clear g2 g3 u0 u1 v0 v1 v2 v3 v4 v5 y0 y1 h0 h1 h2 h3 h4 h5
                  apply wp_region_told (le := fun a b => a.grownBy b none) [isV _, isV _, isV _, isV _, isV _, isV _, isV _, isV _, isV _, isV _, isV _, isV _, isV _, isV _, isV _]
                  case hn => rfl
                  case hm => kernel_rfl
                  case hB => kernel_rfl
                  case ht => exact fun _ _ _ h k => gb_none h k
                  case hw => exact gb_drew (gb_refl _ _)
                  -- 0: facts.go:42 move
                  apply told_is
                  · intro W f hW hE h0 K hK
                    have e3 := h0 3 (by kernel_rfl)
                    conv at e3 => rhs; whnf
                    clear hE h0
                    refine yes_of (want_free rfl) ?_
                    go_simp; exact hK _ _ (gb_refl _ _) rfl
                  -- 1: facts.go:42 binOp
                  apply told_is
                  · intro W f hW hE h0 K hK
                    have e34 : f 34 = _ := hE 0 34 _ rfl (by kernel_rfl)
                    clear hE h0
                    refine yes_of (want_free rfl) ?_
                    have h1 := Hk1.out
                    have h2 := Hk2.out
                    go_simp; exact hK _ _ (gb_refl _ _) rfl
                  -- 2: facts.go:42 move
                  apply told_is
                  · intro W f hW hE h0 K hK
                    have e35 : f 35 = _ := hE 0 35 _ rfl (by kernel_rfl)
                    clear hE h0
                    refine yes_of (want_free rfl) ?_
                    go_simp; exact hK _ _ (gb_refl _ _) rfl
                  -- 3: facts.go:42 fieldAddr
                  apply told_is
                  · intro W f hW hE h0 K hK
                    have e1 := h0 1 (by kernel_rfl)
                    conv at e1 => rhs; whnf
                    have e36 : f 36 = _ := hE 0 36 _ rfl (by kernel_rfl)
                    clear hE h0
                    refine yes_of (want_yes rfl rfl e36) ?_
                    go_simp; exact hK _ _ (gb_refl _ _) rfl
                  -- 4: facts.go:42 load
                  apply told_is
                  · intro W f hW hE h0 K hK
                    have e37 : f 37 = _ := hE 0 37 _ rfl (by kernel_rfl)
                    have e36 : f 36 = _ := hE 1 36 _ rfl (by kernel_rfl)
                    clear hE h0
                    refine yes_of (want_yes rfl rfl e36) ?_
                    obtain ⟨y0, y1, y2, y3⟩ := HK.out W hW
                    go_simp; exact hK _ _ (gb_refl _ _) rfl
                  -- 5: facts.go:42 move
                  apply told_is
                  · intro W f hW hE h0 K hK
                    have e3 := h0 3 (by kernel_rfl)
                    conv at e3 => rhs; whnf
                    have e36 : f 36 = _ := hE 2 36 _ rfl (by kernel_rfl)
                    clear hE h0
                    refine yes_of (want_yes rfl rfl e36) ?_
                    go_simp; exact hK _ _ (gb_refl _ _) rfl
                  -- 6: facts.go:42 binOp
                  apply told_is
                  · intro W f hW hE h0 K hK
                    have e39 : f 39 = _ := hE 0 39 _ rfl (by kernel_rfl)
                    have e36 : f 36 = _ := hE 3 36 _ rfl (by kernel_rfl)
                    clear hE h0
                    refine yes_of (want_yes rfl rfl e36) ?_
                    have hw := Hw.out
                    go_simp; exact hK _ _ (gb_refl _ _) rfl
                  -- 7: facts.go:42 indexAddr
                  apply told_is
                  · intro W f hW hE h0 K hK
                    have e38 : f 38 = _ := hE 2 38 _ rfl (by kernel_rfl)
                    have e40 : f 40 = _ := hE 0 40 _ rfl (by kernel_rfl)
                    have e36 : f 36 = _ := hE 4 36 _ rfl (by kernel_rfl)
                    clear hE h0
                    refine yes_of (want_yes rfl rfl e36) ?_
                    go_simp; exact hK _ _ (gb_refl _ _) rfl
                  -- 8: facts.go:42 fieldAddr
                  apply told_is
                  · intro W f hW hE h0 K hK
                    have e41 : f 41 = _ := hE 0 41 _ rfl (by kernel_rfl)
                    have e36 : f 36 = _ := hE 5 36 _ rfl (by kernel_rfl)
                    clear hE h0
                    refine yes_of (want_yes rfl rfl e36) ?_
                    go_simp; exact hK _ _ (gb_refl _ _) rfl
                  -- 9: facts.go:42 load
                  apply told_is
                  · intro W f hW hE h0 K hK
                    have e42 : f 42 = _ := hE 0 42 _ rfl (by kernel_rfl)
                    have e36 : f 36 = _ := hE 6 36 _ rfl (by kernel_rfl)
                    clear hE h0
                    refine yes_of (want_yes rfl rfl e36) ?_
                    obtain ⟨y0, y1, y2, y3⟩ := HK.out W hW
                    obtain ⟨q0, q1, q2, q3, q4, q5⟩ := y3
                    go_simp; exact hK _ _ (gb_refl _ _) rfl
                  -- 10: facts.go:42 fieldAddr
                  apply told_is
                  · intro W f hW hE h0 K hK
                    have e4 := h0 4 (by kernel_rfl)
                    conv at e4 => rhs; whnf
                    have e36 : f 36 = _ := hE 7 36 _ rfl (by kernel_rfl)
                    clear hE h0
                    refine yes_of (want_yes rfl rfl e36) ?_
                    go_simp; exact hK _ _ (gb_refl _ _) rfl
                  -- 11: facts.go:42 load
                  apply told_is
                  · intro W f hW hE h0 K hK
                    have e44 : f 44 = _ := hE 0 44 _ rfl (by kernel_rfl)
                    have e36 : f 36 = _ := hE 8 36 _ rfl (by kernel_rfl)
                    clear hE h0
                    refine yes_of (want_yes rfl rfl e36) ?_
                    obtain ⟨y0, y1, y2, y3⟩ := HK.out W hW
                    obtain ⟨q0, q1, q2, q3, q4, q5⟩ := y2
                    go_simp; exact hK _ _ (gb_refl _ _) rfl
                  -- 12: facts.go:42 call
                  apply told_is
                  · intro W f hW hE h0 K hK
                    have e43 : f 43 = _ := hE 2 43 _ rfl (by kernel_rfl)
                    have e45 : f 45 = _ := hE 0 45 _ rfl (by kernel_rfl)
                    have e36 : f 36 = _ := hE 9 36 _ rfl (by kernel_rfl)
                    clear hE h0
                    refine yes_of (want_yes rfl rfl e36) ?_
                    go_simp
                    refine (pCmp_any _ _ _ _ _).mono ?_
                    rintro e w1' ⟨he, g⟩; rw [HCV.out] at he; subst he
                    exact ⟨_, rfl, hK _ _ g.gb rfl⟩
                  -- 13: facts.go:42 binOp
                  apply told_is
                  · intro W f hW hE h0 K hK
                    have e46 : f 46 = _ := hE 0 46 _ rfl (by kernel_rfl)
                    have e36 : f 36 = _ := hE 10 36 _ rfl (by kernel_rfl)
                    clear hE h0
                    refine yes_of (want_yes rfl rfl e36) ?_
                    have hq := Hq.out
                    go_simp; exact hK _ _ (gb_refl _ _) rfl
                  -- 14: facts.go:42 pick
                  apply told_is
                  · intro W f hW hE h0 K hK
                    have e36 : f 36 = _ := hE 11 36 _ rfl (by kernel_rfl)
                    have e47 : f 47 = _ := hE 0 47 _ rfl (by kernel_rfl)
                    clear hE h0
                    refine yes_of (want_free rfl) ?_
                    go_simp; exact hK _ _ (gb_refl _ _) rfl
                  intro W f hW hA
                  simp only [lexIn, Act.put, List.setIfInBounds_toArray, List.set_cons_zero, List.set_cons_succ]
                  have e48 : f 48 = _ := hA 0 (some 48) _ rfl
                  rw [e48]
                  clear hA
                  go_wp2_with fail
                  go_ret
                  exact ⟨⟨false, rfl, by simp [Hno.out]⟩, gb_none HG1.out (gb_none HG3.out hW)⟩
            · have HhB : Hid (hasB rs x.d x.n = false) := by show _ = _; rw [Bool.eq_false_iff, ne_eq, hasB_iff]; exact hh
              have Hno : Hid (¬ MayS ⟨rs, l⟩) := not_has Hx.out hh
              clear hh
              go_upto_region 6 with fail
              go_wp2_with (go_at_call 74; refine (pRight_any x _).mono ?_; rintro e w2 ⟨he, g2⟩; rw [HR.out] at he; subst he; obtain ⟨u0, u1, u2⟩ := HB.out w2 g2; obtain ⟨v0, v1, v2, v3, v4, v5⟩ := u2; have HH2 := Lib.hid (HH.out w2 g2))
              go_wp2_with (go_at_call 75; refine HH2.out.mono ?_; rintro e w3 ⟨he, g3⟩; rw [HhB.out] at he; subst he)
              have HG3 := gb_none Hg.out (gb_none g2 g3)
              go_ret
              exact ⟨⟨false, rfl, by simp [Hno.out]⟩, gb_none HG1.out HG3⟩
          · have HR : Hid (decide (RightF x) = false) := decide_eq_false hr
            have Hno : Hid (¬ MayS ⟨rs, l⟩) := not_right Hx.out hr
            clear hr
            go_upto_region 6 with fail
            go_wp2_with (go_at_call 74; refine (pRight_any x _).mono ?_; rintro e w2 ⟨he, g2⟩; rw [HR.out] at he; subst he)
            have HG3 := gb_none Hg.out g2
            go_ret
            exact ⟨⟨false, rfl, by simp [Hno.out]⟩, gb_none HG1.out HG3⟩
        · have hkn : k = n := by omega
          subst hkn
          have d1 : decide (k < k) = false := by simp
          have d2 : decide ((k : Int) < (k : Int)) = false := by simp
          have He : Hid (MayS ⟨rs, l⟩) := by
            show MayS ⟨rs, l⟩
            have h := HX.out
            rw [List.take_of_length_le (by rw [Hl.out.1]; exact Nat.le_refl _)] at h
            exact ⟨Hmay.out, by show l.length ≤ 400; rw [Hl.out.1]; exact H4.out, h.1, h.2⟩
          have Hend := Lib.hid (gb_none HG1.out hg)
          clear hg
          go_wp2_with fail
          go_ret
          exact ⟨⟨true, rfl, by simp [He.out]⟩, Hend.out⟩
    · have Hans : Hid (∀ e w', MayIs rs W0 e w' → e = .returned (.bool false) ∧ W0.grownBy w' none) := fun e w' h => h.b.no hmay
      have Hno : Hid (¬ MayS ⟨rs, l⟩) := fun h => hmay h.1
      clear hmay
      go_enter Tryz.func50, Tryz.ntmps50
      go_upto_region 1 with fail
      clear hW0
      go_wp2_with (go_at_call 73; refine Hm.out.mono ?_; intro e W1 hh; obtain ⟨he, g1⟩ := Hans.out e W1 hh; clear hh; subst he; obtain ⟨k0, k1⟩ := HC.out W1 g1)
      go_ret
      exact ⟨⟨false, rfl, by simp [Hno.out]⟩, gb_none HG.out g1⟩
  · have a1 : decide (400 < n) = true := decide_eq_true (by omega)
    have a2 : decide ((400 : Int) < (n : Int)) = true := decide_eq_true (by omega)
    have Hno : Hid (¬ MayS ⟨rs, l⟩) := fun h => h4 (by rw [← Hs.out.2.1]; exact h.2.1)
    clear h4
    go_enter Tryz.func50, Tryz.ntmps50
    go_upto_region 1 with fail
    clear hW0
    go_wp2_with fail
    go_ret
    exact ⟨⟨false, rfl, by simp [Hno.out]⟩, HG.out⟩

set_option maxHeartbeats 16000000 in
set_option maxRecDepth 100000 in
theorem refMayS_any (A B : Option Addr) (p c n d : Nat) (s : St) (w : World) (hs : SL w A p B n s) (hp : p ≤ 100000) (hn : n ≤ 1099511627776) :
    Calls Tryz.prog 17 #[.agg #[.slice A p c, .slice B n d]] w (BoolIs (MayS s) w) := by
  obtain ⟨rs, l⟩ := s
  obtain ⟨W0, hW0⟩ : ∃ W0, w.alloc (.cells #[.slice A p c, .slice B n d] 25) = W0 := ⟨_, rfl⟩
  have G0 : w.grownBy W0 none := by rw [← hW0]; exact gb_alloc (gb_refl _ _) _
  have hr0 : Row W0 w.heap.size 25 #[.slice A p c, .slice B n d] := by rw [← hW0]; exact Row.new _ _ _
  have HC : Hid (∀ W, W0.grownBy W none → W.cell? ⟨w.heap.size, 0, none⟩ = some (.slice A p c) ∧ W.cell? ⟨w.heap.size, 1, none⟩ = some (.slice B n d)) :=
    fun W hW => ⟨(hr0.kept hW (by simp)).at_ (i := 0) rfl, (hr0.kept hW (by simp)).at_ (i := 1) rfl⟩
  have Hs := Lib.hid (hs.keep G0)
  have HG := Lib.hid G0
  obtain ⟨z0, z1⟩ := HC.out W0 (gb_refl _ _)
  clear hr0 hs G0
  have Hm := Lib.hid (refMay_any A p c rs W0 Hs.out.1 (by omega))
  have Hp : Hid (p ≤ 1099511627776) := by show _ ≤ _; omega
  by_cases hmay : May rs
  · have Hans : Hid (∀ e w', MayIs rs W0 e w' → e = .returned (.bool true) ∧ W0.grownBy w' none) := fun e w' h => h.b.yes hmay
    have Hmay := Lib.hid hmay
    clear hmay
    by_cases h4 : n ≤ 400
    · have a1 : decide (400 < n) = false := decide_eq_false (by omega)
      have a2 : decide ((400 : Int) < (n : Int)) = false := decide_eq_false (by omega)
      have H4 := Lib.hid h4
      clear h4
      go_enter Tryz.func17, Tryz.ntmps17
      go_upto_region 1 with fail
      clear hW0
      go_wp2_with (go_at_call 38; refine Hm.out.mono ?_; intro e W1 hh; obtain ⟨he, g1⟩ := Hans.out e W1 hh; clear hh; subst he; obtain ⟨k0, k1⟩ := HC.out W1 g1)
      have HC1 : Hid (∀ W, W1.grownBy W none → W.cell? ⟨w.heap.size, 0, none⟩ = some (.slice A p c) ∧ W.cell? ⟨w.heap.size, 1, none⟩ = some (.slice B n d)) := fun W hW => HC.out W (gb_none g1 hW)
      have HG1 : Hid (w.grownBy W1 none) := gb_none HG.out g1
      have Hr := Lib.hid (Hs.out.1.keep g1)
      have Hl := Lib.hid (Hs.out.2.keep g1)
      clear z0 z1 g1
      go_loopw [3] (fun i wr => ∃ k : Nat, k ≤ n ∧ i = .int .i64 k ∧ Hid (Good rs (l.take k)) ∧ W1.grownBy wr none) (fun i _ => n - (intOf i).toNat)
      case atStart => exact ⟨0, Nat.zero_le _, rfl, good_nil rs, gb_refl _ _⟩
      case round =>
        obtain ⟨k, hk, rfl, HX, hg⟩ := hrel
        obtain ⟨y0, y1⟩ := HC1.out wr hg
        by_cases hlt : k < n
        · have d1 : decide (k < n) = true := decide_eq_true hlt
          have d2 : decide ((k : Int) < (n : Int)) = true := decide_eq_true (by omega)
          have bk : (k : Int) < (n : Int) := by omega
          obtain ⟨g, o, rfl, hgl, hcc⟩ := (Hl.out.keep hg).2 (by omega)
          obtain ⟨x, hx⟩ : ∃ x, l[k]? = some x := ⟨_, List.getElem?_eq_getElem (by rw [Hl.out.1]; exact hlt)⟩
          obtain ⟨h0, h1, h2, h3, h4, h5⟩ := hcc k x hx
          have HCC := Lib.hid hcc
          have Hx := Lib.hid hx
          have Hgl := Lib.hid hgl
          have hga := gb_alloc hg (.cells #[.int .i64 x.d, .int .i64 x.n, .string x.key, .int .i64 x.kind, .string x.item, .int .i64 x.v] 46)
          have HB : Hid (∀ W, (wr.alloc (.cells #[.int .i64 x.d, .int .i64 x.n, .string x.key, .int .i64 x.kind, .string x.item, .int .i64 x.v] 46)).grownBy W none → W.cell? ⟨w.heap.size, 0, none⟩ = some (.slice A p c) ∧ W.cell? ⟨w.heap.size, 1, none⟩ = some (.slice (some ⟨g, o, none⟩) n d) ∧ At6 W wr.heap.size 0 x) :=
            fun W hW => ⟨(HC1.out W (gb_none hga hW)).1, (HC1.out W (gb_none hga hW)).2, (box6 wr x _).keep (by rw [World.size_alloc]; omega) hW⟩
          have HH : Hid (∀ W, (wr.alloc (.cells #[.int .i64 x.d, .int .i64 x.n, .string x.key, .int .i64 x.kind, .string x.item, .int .i64 x.v] 46)).grownBy W none → Calls Tryz.prog 40 #[.slice A p c, .agg #[.int .i64 x.d, .int .i64 x.n]] W fun e w' => e = .returned (.bool (hasB rs x.d x.n)) ∧ W.grownBy w' none) :=
            fun W hW => refHas_any A p c rs x.d x.n W (Hr.out.keep (gb_none hga hW)) Hp.out
          have Hg := Lib.hid hga
          clear hcc hx hgl hga hg
          by_cases hr : RightF x
          · have HR : Hid (decide (RightF x) = true) := decide_eq_true hr
            have Hri := Lib.hid hr
            clear hr
            by_cases hh : Has rs x.d x.n
            · have HhB : Hid (hasB rs x.d x.n = true) := (hasB_iff _ _ _).2 hh
              have Hha := Lib.hid hh
              clear hh
              by_cases hk0 : k = 0
              · have Hk1 : Hid (decide (0 < k) = false) := decide_eq_false (by omega)
                have Hk2 : Hid (decide ((0 : Int) < (k : Int)) = false) := decide_eq_false (by omega)
                have Hnext : Hid (Good rs (l.take (k + 1))) := good_next HX.out Hx.out Hri.out Hha.out (.inl hk0)
                clear hk0
                go_upto_region 7 with fail
                clear y0 y1 h0 h1 h2 h3 h4 h5
                apply wp_region_told (le := fun a b => a.grownBy b none) [isV _, isV _, isV _, isV _, isV _, isV _, isV _, isV _, isV _, isV _, isV _, isV _, isV _, isV _, isV _, isV _, isV _, isV _, isV _, isV _, isV _, isV _, isV _, isV _, isV _, isV _, isV _, isV _]
                case hn => rfl
                case hm => kernel_rfl
                case hB => kernel_rfl
                case ht => exact fun _ _ _ h k => gb_none h k
                case hw => exact gb_drew (gb_refl _ _)
                -- 0: ref.go:162 load
                apply told_is
                · intro W f hW hE h0 K hK
                  have e4 := h0 4 (by kernel_rfl)
                  conv at e4 => rhs; whnf
                  clear hE h0
                  refine yes_of (want_free rfl) ?_
                  obtain ⟨y0, y1, y2⟩ := HB.out W hW
                  obtain ⟨q0, q1, q2, q3, q4, q5⟩ := y2
                  go_simp; exact hK _ _ (gb_refl _ _) rfl
                -- 1: ref.go:162 call
                apply told_is
                · intro W f hW hE h0 K hK
                  have e27 : f 27 = _ := hE 0 27 _ rfl (by kernel_rfl)
                  clear hE h0
                  refine yes_of (want_free rfl) ?_
                  go_simp
                  refine (refRight_any x _).mono ?_
                  rintro e w1' ⟨he, g⟩; rw [HR.out] at he; subst he
                  exact ⟨_, rfl, hK _ _ g rfl⟩
                -- 2: ref.go:162 unOp
                apply told_is
                · intro W f hW hE h0 K hK
                  have e28 : f 28 = _ := hE 0 28 _ rfl (by kernel_rfl)
                  clear hE h0
                  refine yes_of (want_free rfl) ?_
                  go_simp; exact hK _ _ (gb_refl _ _) rfl
                -- 3: ref.go:162 move
                apply told_is
                · intro W f hW hE h0 K hK
                  have e29 : f 29 = _ := hE 0 29 _ rfl (by kernel_rfl)
                  clear hE h0
                  refine yes_of (want_free rfl) ?_
                  go_simp; exact hK _ _ (gb_refl _ _) rfl
                -- 4: ref.go:162 fieldAddr
                apply told_is
                · intro W f hW hE h0 K hK
                  have e1 := h0 1 (by kernel_rfl)
                  conv at e1 => rhs; whnf
                  have e30 : f 30 = _ := hE 0 30 _ rfl (by kernel_rfl)
                  clear hE h0
                  refine yes_of (want_yes rfl rfl e30) ?_
                  go_simp; exact hK _ _ (gb_refl _ _) rfl
                -- 5: ref.go:162 load
                apply told_is
                · intro W f hW hE h0 K hK
                  have e31 : f 31 = _ := hE 0 31 _ rfl (by kernel_rfl)
                  have e30 : f 30 = _ := hE 1 30 _ rfl (by kernel_rfl)
                  clear hE h0
                  refine yes_of (want_yes rfl rfl e30) ?_
                  obtain ⟨y0, y1, y2⟩ := HB.out W hW
                  go_simp; exact hK _ _ (gb_refl _ _) rfl
                -- 6: ref.go:162 fieldAddr
                apply told_is
                · intro W f hW hE h0 K hK
                  have e4 := h0 4 (by kernel_rfl)
                  conv at e4 => rhs; whnf
                  have e30 : f 30 = _ := hE 2 30 _ rfl (by kernel_rfl)
                  clear hE h0
                  refine yes_of (want_yes rfl rfl e30) ?_
                  go_simp; exact hK _ _ (gb_refl _ _) rfl
                -- 7: ref.go:162 load
                apply told_is
                · intro W f hW hE h0 K hK
                  have e33 : f 33 = _ := hE 0 33 _ rfl (by kernel_rfl)
                  have e30 : f 30 = _ := hE 3 30 _ rfl (by kernel_rfl)
                  clear hE h0
                  refine yes_of (want_yes rfl rfl e30) ?_
                  obtain ⟨y0, y1, y2⟩ := HB.out W hW
                  obtain ⟨q0, q1, q2, q3, q4, q5⟩ := y2
                  go_simp; exact hK _ _ (gb_refl _ _) rfl
                -- 8: ref.go:162 call
                apply told_is
                · intro W f hW hE h0 K hK
                  have e32 : f 32 = _ := hE 2 32 _ rfl (by kernel_rfl)
                  have e34 : f 34 = _ := hE 0 34 _ rfl (by kernel_rfl)
                  have e30 : f 30 = _ := hE 4 30 _ rfl (by kernel_rfl)
                  clear hE h0
                  refine yes_of (want_yes rfl rfl e30) ?_
                  go_simp
                  refine (HH.out W hW).mono ?_
                  rintro e w1' ⟨he, g⟩; rw [HhB.out] at he; subst he
                  exact ⟨_, rfl, hK _ _ g rfl⟩
                -- 9: ref.go:162 unOp
                apply told_is
                · intro W f hW hE h0 K hK
                  have e35 : f 35 = _ := hE 0 35 _ rfl (by kernel_rfl)
                  have e30 : f 30 = _ := hE 5 30 _ rfl (by kernel_rfl)
                  clear hE h0
                  refine yes_of (want_yes rfl rfl e30) ?_
                  go_simp; exact hK _ _ (gb_refl _ _) rfl
                -- 10: ref.go:162 pick
                apply told_is
                · intro W f hW hE h0 K hK
                  have e30 : f 30 = _ := hE 6 30 _ rfl (by kernel_rfl)
                  have e36 : f 36 = _ := hE 0 36 _ rfl (by kernel_rfl)
                  clear hE h0
                  refine yes_of (want_free rfl) ?_
                  go_simp; exact hK _ _ (gb_refl _ _) rfl
                -- 11: ref.go:162 move
                apply told_is
                · intro W f hW hE h0 K hK
                  have e37 : f 37 = _ := hE 0 37 _ rfl (by kernel_rfl)
                  clear hE h0
                  refine yes_of (want_free rfl) ?_
                  go_simp; exact hK _ _ (gb_refl _ _) rfl
                -- 12: ref.go:162 move
                apply told_is
                · intro W f hW hE h0 K hK
                  have e3 := h0 3 (by kernel_rfl)
                  conv at e3 => rhs; whnf
                  have e38 : f 38 = _ := hE 0 38 _ rfl (by kernel_rfl)
                  clear hE h0
                  refine yes_of (want_yes rfl rfl e38) ?_
                  go_simp; exact hK _ _ (gb_refl _ _) rfl
                -- 13: ref.go:162 binOp
                apply told_is
                · intro W f hW hE h0 K hK
                  have e39 : f 39 = _ := hE 0 39 _ rfl (by kernel_rfl)
                  have e38 : f 38 = _ := hE 1 38 _ rfl (by kernel_rfl)
                  clear hE h0
                  refine yes_of (want_yes rfl rfl e38) ?_
                  have h1 := Hk1.out
                  have h2 := Hk2.out
                  go_simp; exact hK _ _ (gb_refl _ _) rfl
                -- 14: ref.go:162 move
                apply told_is
                · intro W f hW hE h0 K hK
                  have e40 : f 40 = _ := hE 0 40 _ rfl (by kernel_rfl)
                  have e38 : f 38 = _ := hE 2 38 _ rfl (by kernel_rfl)
                  clear hE h0
                  refine yes_of (want_yes rfl rfl e38) ?_
                  go_simp; exact hK _ _ (gb_refl _ _) rfl
                -- 15: ref.go:162 fieldAddr
                apply told_is
                · intro W f hW hE h0 K hK
                  have e41 : f 41 = _ := hE 0 41 _ rfl (by kernel_rfl)
                  clear hE h0
                  refine no_of (want_no rfl rfl e41 rfl) ?_
                  exact hK _ _ (gb_refl _ _) rfl
                -- 16: ref.go:162 load
                apply told_is
                · intro W f hW hE h0 K hK
                  have e41 : f 41 = _ := hE 1 41 _ rfl (by kernel_rfl)
                  clear hE h0
                  refine no_of (want_no rfl rfl e41 rfl) ?_
                  exact hK _ _ (gb_refl _ _) rfl
                -- 17: ref.go:162 move
                apply told_is
                · intro W f hW hE h0 K hK
                  have e41 : f 41 = _ := hE 2 41 _ rfl (by kernel_rfl)
                  clear hE h0
                  refine no_of (want_no rfl rfl e41 rfl) ?_
                  exact hK _ _ (gb_refl _ _) rfl
                -- 18: ref.go:162 binOp
                apply told_is
                · intro W f hW hE h0 K hK
                  have e41 : f 41 = _ := hE 3 41 _ rfl (by kernel_rfl)
                  clear hE h0
                  refine no_of (want_no rfl rfl e41 rfl) ?_
                  exact hK _ _ (gb_refl _ _) rfl
                -- 19: ref.go:162 indexAddr
                apply told_is
                · intro W f hW hE h0 K hK
                  have e41 : f 41 = _ := hE 4 41 _ rfl (by kernel_rfl)
                  clear hE h0
                  refine no_of (want_no rfl rfl e41 rfl) ?_
                  exact hK _ _ (gb_refl _ _) rfl
                -- 20: ref.go:162 fieldAddr
                apply told_is
                · intro W f hW hE h0 K hK
                  have e41 : f 41 = _ := hE 5 41 _ rfl (by kernel_rfl)
                  clear hE h0
                  refine no_of (want_no rfl rfl e41 rfl) ?_
                  exact hK _ _ (gb_refl _ _) rfl
                -- 21: ref.go:162 load
                apply told_is
                · intro W f hW hE h0 K hK
                  have e41 : f 41 = _ := hE 6 41 _ rfl (by kernel_rfl)
                  clear hE h0
                  refine no_of (want_no rfl rfl e41 rfl) ?_
                  exact hK _ _ (gb_refl _ _) rfl
                -- 22: ref.go:162 fieldAddr
                apply told_is
                · intro W f hW hE h0 K hK
                  have e41 : f 41 = _ := hE 7 41 _ rfl (by kernel_rfl)
                  clear hE h0
                  refine no_of (want_no rfl rfl e41 rfl) ?_
                  exact hK _ _ (gb_refl _ _) rfl
                -- 23: ref.go:162 load
                apply told_is
                · intro W f hW hE h0 K hK
                  have e41 : f 41 = _ := hE 8 41 _ rfl (by kernel_rfl)
                  clear hE h0
                  refine no_of (want_no rfl rfl e41 rfl) ?_
                  exact hK _ _ (gb_refl _ _) rfl
                -- 24: ref.go:162 call
                apply told_is
                · intro W f hW hE h0 K hK
                  have e41 : f 41 = _ := hE 9 41 _ rfl (by kernel_rfl)
                  clear hE h0
                  refine no_of (want_no rfl rfl e41 rfl) ?_
                  exact hK _ _ (gb_refl _ _) rfl
                -- 25: ref.go:162 binOp
                apply told_is
                · intro W f hW hE h0 K hK
                  have e41 : f 41 = _ := hE 10 41 _ rfl (by kernel_rfl)
                  clear hE h0
                  refine no_of (want_no rfl rfl e41 rfl) ?_
                  exact hK _ _ (gb_refl _ _) rfl
                -- 26: ref.go:162 pick
                apply told_is
                · intro W f hW hE h0 K hK
                  have e41 : f 41 = _ := hE 11 41 _ rfl (by kernel_rfl)
                  have e52 : f 52 = _ := hE 0 52 _ rfl (by kernel_rfl)
                  have e38 : f 38 = _ := hE 14 38 _ rfl (by kernel_rfl)
                  clear hE h0
                  refine yes_of (want_yes rfl rfl e38) ?_
                  go_simp; exact hK _ _ (gb_refl _ _) rfl
                -- 27: ref.go:162 pick
                apply told_is
                · intro W f hW hE h0 K hK
                  have e38 : f 38 = _ := hE 15 38 _ rfl (by kernel_rfl)
                  have e53 : f 53 = _ := hE 0 53 _ rfl (by kernel_rfl)
                  clear hE h0
                  refine yes_of (want_free rfl) ?_
                  go_simp; exact hK _ _ (gb_refl _ _) rfl
                intro W f hW hA
                simp only [lexIn, Act.put, List.setIfInBounds_toArray, List.set_cons_zero, List.set_cons_succ]
                have e54 : f 54 = _ := hA 0 (some 54) _ rfl
                rw [e54]
                clear hA
                go_wp2_with fail
                go_roundw
                case rel => exact ⟨k + 1, by omega, by go_num, Hnext, gb_none Hg.out hW⟩
                case measure => simp [intOf]; omega
              · obtain ⟨j, hj⟩ : ∃ j, k = j + 1 := ⟨k - 1, by omega⟩
                obtain ⟨z, hz⟩ : ∃ z, l[j]? = some z := ⟨_, List.getElem?_eq_getElem (by rw [Hl.out.1]; omega)⟩
                have Hk1 : Hid (decide (0 < k) = true) := decide_eq_true (by omega)
                have Hk2 : Hid (decide ((0 : Int) < (k : Int)) = true) := decide_eq_true (by omega)
                have Hw : Hid (IntKind.i64.wrap ((k : Int) - 1) = (j : Int)) := by show _ = _; rw [IntKind.wrap_i64]; omega
                have bj : (j : Int) < (n : Int) := by omega
                have HZ : Hid (∀ W, (wr.alloc (.cells #[.int .i64 x.d, .int .i64 x.n, .string x.key, .int .i64 x.kind, .string x.item, .int .i64 x.v] 46)).grownBy W none → At6 W g (o + j * 6) z) := fun W hW => (HCC.out j z hz).keep Hgl.out (gb_none (gb_alloc (gb_refl wr none) _) hW)
                obtain ⟨cv, hcv⟩ : ∃ cv, cmpD z.d z.n x.d x.n = cv := ⟨_, rfl⟩
                have hge := cmp_ge z x
                rw [hcv] at hge
                have HCV := Lib.hid hcv
                have Hz := Lib.hid hz
                have Hj := Lib.hid hj
                clear hj hz hcv hk0
                by_cases hf : FLt z x
                · have Hq : Hid (decide (0 ≤ cv) = false) := by show _ = _; rw [hge, decide_eq_true hf]; rfl
                  have Hnext : Hid (Good rs (l.take (k + 1))) := good_next HX.out Hx.out Hri.out Hha.out (.inr ⟨j, z, Hj.out, Hz.out, hf⟩)
                  clear hge hf
                  go_upto_region 7 with fail
                  clear y0 y1 h0 h1 h2 h3 h4 h5
                  apply wp_region_told (le := fun a b => a.grownBy b none) [isV _, isV _, isV _, isV _, isV _, isV _, isV _, isV _, isV _, isV _, isV _, isV _, isV _, isV _, isV _, isV _, isV _, isV _, isV _, isV _, isV _, isV _, isV _, isV _, isV _, isV _, isV _, isV _]
                  case hn => rfl
                  case hm => kernel_rfl
                  case hB => kernel_rfl
                  case ht => exact fun _ _ _ h k => gb_none h k
                  case hw => exact gb_drew (gb_refl _ _)
                  -- 0: ref.go:162 load
                  apply told_is
                  · intro W f hW hE h0 K hK
                    have e4 := h0 4 (by kernel_rfl)
                    conv at e4 => rhs; whnf
                    clear hE h0
                    refine yes_of (want_free rfl) ?_
                    obtain ⟨y0, y1, y2⟩ := HB.out W hW
                    obtain ⟨q0, q1, q2, q3, q4, q5⟩ := y2
                    go_simp; exact hK _ _ (gb_refl _ _) rfl
                  -- 1: ref.go:162 call
                  apply told_is
                  · intro W f hW hE h0 K hK
                    have e27 : f 27 = _ := hE 0 27 _ rfl (by kernel_rfl)
                    clear hE h0
                    refine yes_of (want_free rfl) ?_
                    go_simp
                    refine (refRight_any x _).mono ?_
                    rintro e w1' ⟨he, g⟩; rw [HR.out] at he; subst he
                    exact ⟨_, rfl, hK _ _ g rfl⟩
                  -- 2: ref.go:162 unOp
                  apply told_is
                  · intro W f hW hE h0 K hK
                    have e28 : f 28 = _ := hE 0 28 _ rfl (by kernel_rfl)
                    clear hE h0
                    refine yes_of (want_free rfl) ?_
                    go_simp; exact hK _ _ (gb_refl _ _) rfl
                  -- 3: ref.go:162 move
                  apply told_is
                  · intro W f hW hE h0 K hK
                    have e29 : f 29 = _ := hE 0 29 _ rfl (by kernel_rfl)
                    clear hE h0
                    refine yes_of (want_free rfl) ?_
                    go_simp; exact hK _ _ (gb_refl _ _) rfl
                  -- 4: ref.go:162 fieldAddr
                  apply told_is
                  · intro W f hW hE h0 K hK
                    have e1 := h0 1 (by kernel_rfl)
                    conv at e1 => rhs; whnf
                    have e30 : f 30 = _ := hE 0 30 _ rfl (by kernel_rfl)
                    clear hE h0
                    refine yes_of (want_yes rfl rfl e30) ?_
                    go_simp; exact hK _ _ (gb_refl _ _) rfl
                  -- 5: ref.go:162 load
                  apply told_is
                  · intro W f hW hE h0 K hK
                    have e31 : f 31 = _ := hE 0 31 _ rfl (by kernel_rfl)
                    have e30 : f 30 = _ := hE 1 30 _ rfl (by kernel_rfl)
                    clear hE h0
                    refine yes_of (want_yes rfl rfl e30) ?_
                    obtain ⟨y0, y1, y2⟩ := HB.out W hW
                    go_simp; exact hK _ _ (gb_refl _ _) rfl
                  -- 6: ref.go:162 fieldAddr
                  apply told_is
                  · intro W f hW hE h0 K hK
                    have e4 := h0 4 (by kernel_rfl)
                    conv at e4 => rhs; whnf
                    have e30 : f 30 = _ := hE 2 30 _ rfl (by kernel_rfl)
                    clear hE h0
                    refine yes_of (want_yes rfl rfl e30) ?_
                    go_simp; exact hK _ _ (gb_refl _ _) rfl
                  -- 7: ref.go:162 load
                  apply told_is
                  · intro W f hW hE h0 K hK
                    have e33 : f 33 = _ := hE 0 33 _ rfl (by kernel_rfl)
                    have e30 : f 30 = _ := hE 3 30 _ rfl (by kernel_rfl)
                    clear hE h0
                    refine yes_of (want_yes rfl rfl e30) ?_
                    obtain ⟨y0, y1, y2⟩ := HB.out W hW
                    obtain ⟨q0, q1, q2, q3, q4, q5⟩ := y2
                    go_simp; exact hK _ _ (gb_refl _ _) rfl
                  -- 8: ref.go:162 call
                  apply told_is
                  · intro W f hW hE h0 K hK
                    have e32 : f 32 = _ := hE 2 32 _ rfl (by kernel_rfl)
                    have e34 : f 34 = _ := hE 0 34 _ rfl (by kernel_rfl)
                    have e30 : f 30 = _ := hE 4 30 _ rfl (by kernel_rfl)
                    clear hE h0
                    refine yes_of (want_yes rfl rfl e30) ?_
                    go_simp
                    refine (HH.out W hW).mono ?_
                    rintro e w1' ⟨he, g⟩; rw [HhB.out] at he; subst he
                    exact ⟨_, rfl, hK _ _ g rfl⟩
                  -- 9: ref.go:162 unOp
                  apply told_is
                  · intro W f hW hE h0 K hK
                    have e35 : f 35 = _ := hE 0 35 _ rfl (by kernel_rfl)
                    have e30 : f 30 = _ := hE 5 30 _ rfl (by kernel_rfl)
                    clear hE h0
                    refine yes_of (want_yes rfl rfl e30) ?_
                    go_simp; exact hK _ _ (gb_refl _ _) rfl
                  -- 10: ref.go:162 pick
                  apply told_is
                  · intro W f hW hE h0 K hK
                    have e30 : f 30 = _ := hE 6 30 _ rfl (by kernel_rfl)
                    have e36 : f 36 = _ := hE 0 36 _ rfl (by kernel_rfl)
                    clear hE h0
                    refine yes_of (want_free rfl) ?_
                    go_simp; exact hK _ _ (gb_refl _ _) rfl
                  -- 11: ref.go:162 move
                  apply told_is
                  · intro W f hW hE h0 K hK
                    have e37 : f 37 = _ := hE 0 37 _ rfl (by kernel_rfl)
                    clear hE h0
                    refine yes_of (want_free rfl) ?_
                    go_simp; exact hK _ _ (gb_refl _ _) rfl
                  -- 12: ref.go:162 move
                  apply told_is
                  · intro W f hW hE h0 K hK
                    have e3 := h0 3 (by kernel_rfl)
                    conv at e3 => rhs; whnf
                    have e38 : f 38 = _ := hE 0 38 _ rfl (by kernel_rfl)
                    clear hE h0
                    refine yes_of (want_yes rfl rfl e38) ?_
                    go_simp; exact hK _ _ (gb_refl _ _) rfl
                  -- 13: ref.go:162 binOp
                  apply told_is
                  · intro W f hW hE h0 K hK
                    have e39 : f 39 = _ := hE 0 39 _ rfl (by kernel_rfl)
                    have e38 : f 38 = _ := hE 1 38 _ rfl (by kernel_rfl)
                    clear hE h0
                    refine yes_of (want_yes rfl rfl e38) ?_
                    have h1 := Hk1.out
                    have h2 := Hk2.out
                    go_simp; exact hK _ _ (gb_refl _ _) rfl
                  -- 14: ref.go:162 move
                  apply told_is
                  · intro W f hW hE h0 K hK
                    have e40 : f 40 = _ := hE 0 40 _ rfl (by kernel_rfl)
                    have e38 : f 38 = _ := hE 2 38 _ rfl (by kernel_rfl)
                    clear hE h0
                    refine yes_of (want_yes rfl rfl e38) ?_
                    go_simp; exact hK _ _ (gb_refl _ _) rfl
                  -- 15: ref.go:162 fieldAddr
                  apply told_is
                  · intro W f hW hE h0 K hK
                    have e1 := h0 1 (by kernel_rfl)
                    conv at e1 => rhs; whnf
                    have e41 : f 41 = _ := hE 0 41 _ rfl (by kernel_rfl)
                    clear hE h0
                    refine yes_of (want_yes rfl rfl e41) ?_
                    go_simp; exact hK _ _ (gb_refl _ _) rfl
                  -- 16: ref.go:162 load
                  apply told_is
                  · intro W f hW hE h0 K hK
                    have e42 : f 42 = _ := hE 0 42 _ rfl (by kernel_rfl)
                    have e41 : f 41 = _ := hE 1 41 _ rfl (by kernel_rfl)
                    clear hE h0
                    refine yes_of (want_yes rfl rfl e41) ?_
                    obtain ⟨y0, y1, y2⟩ := HB.out W hW
                    go_simp; exact hK _ _ (gb_refl _ _) rfl
                  -- 17: ref.go:162 move
                  apply told_is
                  · intro W f hW hE h0 K hK
                    have e3 := h0 3 (by kernel_rfl)
                    conv at e3 => rhs; whnf
                    have e41 : f 41 = _ := hE 2 41 _ rfl (by kernel_rfl)
                    clear hE h0
                    refine yes_of (want_yes rfl rfl e41) ?_
                    go_simp; exact hK _ _ (gb_refl _ _) rfl
                  -- 18: ref.go:162 binOp
                  apply told_is
                  · intro W f hW hE h0 K hK
                    have e44 : f 44 = _ := hE 0 44 _ rfl (by kernel_rfl)
                    have e41 : f 41 = _ := hE 3 41 _ rfl (by kernel_rfl)
                    clear hE h0
                    refine yes_of (want_yes rfl rfl e41) ?_
                    have hw := Hw.out
                    go_simp; exact hK _ _ (gb_refl _ _) rfl
                  -- 19: ref.go:162 indexAddr
                  apply told_is
                  · intro W f hW hE h0 K hK
                    have e43 : f 43 = _ := hE 2 43 _ rfl (by kernel_rfl)
                    have e45 : f 45 = _ := hE 0 45 _ rfl (by kernel_rfl)
                    have e41 : f 41 = _ := hE 4 41 _ rfl (by kernel_rfl)
                    clear hE h0
                    refine yes_of (want_yes rfl rfl e41) ?_
                    go_simp; exact hK _ _ (gb_refl _ _) rfl
                  -- 20: ref.go:162 fieldAddr
                  apply told_is
                  · intro W f hW hE h0 K hK
                    have e46 : f 46 = _ := hE 0 46 _ rfl (by kernel_rfl)
                    have e41 : f 41 = _ := hE 5 41 _ rfl (by kernel_rfl)
                    clear hE h0
                    refine yes_of (want_yes rfl rfl e41) ?_
                    go_simp; exact hK _ _ (gb_refl _ _) rfl
                  -- 21: ref.go:162 load
                  apply told_is
                  · intro W f hW hE h0 K hK
                    have e47 : f 47 = _ := hE 0 47 _ rfl (by kernel_rfl)
                    have e41 : f 41 = _ := hE 6 41 _ rfl (by kernel_rfl)
                    clear hE h0
                    refine yes_of (want_yes rfl rfl e41) ?_
                    obtain ⟨q0, q1, q2, q3, q4, q5⟩ := HZ.out W hW
                    go_simp; exact hK _ _ (gb_refl _ _) rfl
                  -- 22: ref.go:162 fieldAddr
                  apply told_is
                  · intro W f hW hE h0 K hK
                    have e4 := h0 4 (by kernel_rfl)
                    conv at e4 => rhs; whnf
                    have e41 : f 41 = _ := hE 7 41 _ rfl (by kernel_rfl)
                    clear hE h0
                    refine yes_of (want_yes rfl rfl e41) ?_
                    go_simp; exact hK _ _ (gb_refl _ _) rfl
                  -- 23: ref.go:162 load
                  apply told_is
                  · intro W f hW hE h0 K hK
                    have e49 : f 49 = _ := hE 0 49 _ rfl (by kernel_rfl)
                    have e41 : f 41 = _ := hE 8 41 _ rfl (by kernel_rfl)
                    clear hE h0
                    refine yes_of (want_yes rfl rfl e41) ?_
                    obtain ⟨y0, y1, y2⟩ := HB.out W hW
                    obtain ⟨q0, q1, q2, q3, q4, q5⟩ := y2
                    go_simp; exact hK _ _ (gb_refl _ _) rfl
                  -- 24: ref.go:162 call
                  apply told_is
                  · intro W f hW hE h0 K hK
                    have e48 : f 48 = _ := hE 2 48 _ rfl (by kernel_rfl)
                    have e50 : f 50 = _ := hE 0 50 _ rfl (by kernel_rfl)
                    have e41 : f 41 = _ := hE 9 41 _ rfl (by kernel_rfl)
                    clear hE h0
                    refine yes_of (want_yes rfl rfl e41) ?_
                    go_simp
                    refine (refCmp_any _ _ _ _ _).mono ?_
                    rintro e w1' ⟨he, g⟩; rw [HCV.out] at he; subst he
                    exact ⟨_, rfl, hK _ _ g rfl⟩
                  -- 25: ref.go:162 binOp
                  apply told_is
                  · intro W f hW hE h0 K hK
                    have e51 : f 51 = _ := hE 0 51 _ rfl (by kernel_rfl)
                    have e41 : f 41 = _ := hE 10 41 _ rfl (by kernel_rfl)
                    clear hE h0
                    refine yes_of (want_yes rfl rfl e41) ?_
                    have hq := Hq.out
                    go_simp; exact hK _ _ (gb_refl _ _) rfl
                  -- 26: ref.go:162 pick
                  apply told_is
                  · intro W f hW hE h0 K hK
                    have e41 : f 41 = _ := hE 11 41 _ rfl (by kernel_rfl)
                    have e52 : f 52 = _ := hE 0 52 _ rfl (by kernel_rfl)
                    have e38 : f 38 = _ := hE 14 38 _ rfl (by kernel_rfl)
                    clear hE h0
                    refine yes_of (want_yes rfl rfl e38) ?_
                    go_simp; exact hK _ _ (gb_refl _ _) rfl
                  -- 27: ref.go:162 pick
                  apply told_is
                  · intro W f hW hE h0 K hK
                    have e38 : f 38 = _ := hE 15 38 _ rfl (by kernel_rfl)
                    have e53 : f 53 = _ := hE 0 53 _ rfl (by kernel_rfl)
                    clear hE h0
                    refine yes_of (want_free rfl) ?_
                    go_simp; exact hK _ _ (gb_refl _ _) rfl
                  intro W f hW hA
                  simp only [lexIn, Act.put, List.setIfInBounds_toArray, List.set_cons_zero, List.set_cons_succ]
                  have e54 : f 54 = _ := hA 0 (some 54) _ rfl
                  rw [e54]
                  clear hA
                  go_wp2_with fail
                  go_roundw
                  case rel => exact ⟨k + 1, by omega, by go_num, Hnext, gb_none Hg.out hW⟩
                  case measure => simp [intOf]; omega
                · have Hq : Hid (decide (0 ≤ cv) = true) := by show _ = _; rw [hge, decide_eq_false hf]; rfl
                  have Hno : Hid (¬ MayS ⟨rs, l⟩) := not_next Hz.out (by rw [← Hj.out]; exact Hx.out) hf
                  clear hge hf
                  go_upto_region 7 with fail
                  clear y0 y1 h0 h1 h2 h3 h4 h5
                  apply wp_region_told (le := fun a b => a.grownBy b none) [isV _, isV _, isV _, isV _, isV _, isV _, isV _, isV _, isV _, isV _, isV _, isV _, isV _, isV _, isV _, isV _, isV _, isV _, isV _, isV _, isV _, isV _, isV _, isV _, isV _, isV _, isV _, isV _]
                  case hn => rfl
                  case hm => kernel_rfl
                  case hB => kernel_rfl
                  case ht => exact fun _ _ _ h k => gb_none h k
                  case hw => exact gb_drew (gb_refl _ _)
                  -- 0: ref.go:162 load
                  apply told_is
                  · intro W f hW hE h0 K hK
                    have e4 := h0 4 (by kernel_rfl)
                    conv at e4 => rhs; whnf
                    clear hE h0
                    refine yes_of (want_free rfl) ?_
                    obtain ⟨y0, y1, y2⟩ := HB.out W hW
                    obtain ⟨q0, q1, q2, q3, q4, q5⟩ := y2
                    go_simp; exact hK _ _ (gb_refl _ _) rfl
                  -- 1: ref.go:162 call
                  apply told_is
                  · intro W f hW hE h0 K hK
                    have e27 : f 27 = _ := hE 0 27 _ rfl (by kernel_rfl)
                    clear hE h0
                    refine yes_of (want_free rfl) ?_
                    go_simp
                    refine (refRight_any x _).mono ?_
                    rintro e w1' ⟨he, g⟩; rw [HR.out] at he; subst he
                    exact ⟨_, rfl, hK _ _ g rfl⟩
                  -- 2: ref.go:162 unOp
                  apply told_is
                  · intro W f hW hE h0 K hK
                    have e28 : f 28 = _ := hE 0 28 _ rfl (by kernel_rfl)
                    clear hE h0
                    refine yes_of (want_free rfl) ?_
                    go_simp; exact hK _ _ (gb_refl _ _) rfl
                  -- 3: ref.go:162 move
                  apply told_is
                  · intro W f hW hE h0 K hK
                    have e29 : f 29 = _ := hE 0 29 _ rfl (by kernel_rfl)
                    clear hE h0
                    refine yes_of (want_free rfl) ?_
                    go_simp; exact hK _ _ (gb_refl _ _) rfl
                  -- 4: ref.go:162 fieldAddr
                  apply told_is
                  · intro W f hW hE h0 K hK
                    have e1 := h0 1 (by kernel_rfl)
                    conv at e1 => rhs; whnf
                    have e30 : f 30 = _ := hE 0 30 _ rfl (by kernel_rfl)
                    clear hE h0
                    refine yes_of (want_yes rfl rfl e30) ?_
                    go_simp; exact hK _ _ (gb_refl _ _) rfl
                  -- 5: ref.go:162 load
                  apply told_is
                  · intro W f hW hE h0 K hK
                    have e31 : f 31 = _ := hE 0 31 _ rfl (by kernel_rfl)
                    have e30 : f 30 = _ := hE 1 30 _ rfl (by kernel_rfl)
                    clear hE h0
                    refine yes_of (want_yes rfl rfl e30) ?_
                    obtain ⟨y0, y1, y2⟩ := HB.out W hW
                    go_simp; exact hK _ _ (gb_refl _ _) rfl
                  -- 6: ref.go:162 fieldAddr
                  apply told_is
                  · intro W f hW hE h0 K hK
                    have e4 := h0 4 (by kernel_rfl)
                    conv at e4 => rhs; whnf
                    have e30 : f 30 = _ := hE 2 30 _ rfl (by kernel_rfl)
                    clear hE h0
                    refine yes_of (want_yes rfl rfl e30) ?_
                    go_simp; exact hK _ _ (gb_refl _ _) rfl
                  -- 7: ref.go:162 load
                  apply told_is
                  · intro W f hW hE h0 K hK
                    have e33 : f 33 = _ := hE 0 33 _ rfl (by kernel_rfl)
                    have e30 : f 30 = _ := hE 3 30 _ rfl (by kernel_rfl)
                    clear hE h0
                    refine yes_of (want_yes rfl rfl e30) ?_
                    obtain ⟨y0, y1, y2⟩ := HB.out W hW
                    obtain ⟨q0, q1, q2, q3, q4, q5⟩ := y2
                    go_simp; exact hK _ _ (gb_refl _ _) rfl
                  -- 8: ref.go:162 call
                  apply told_is
                  · intro W f hW hE h0 K hK
                    have e32 : f 32 = _ := hE 2 32 _ rfl (by kernel_rfl)
                    have e34 : f 34 = _ := hE 0 34 _ rfl (by kernel_rfl)
                    have e30 : f 30 = _ := hE 4 30 _ rfl (by kernel_rfl)
                    clear hE h0
                    refine yes_of (want_yes rfl rfl e30) ?_
                    go_simp
                    refine (HH.out W hW).mono ?_
                    rintro e w1' ⟨he, g⟩; rw [HhB.out] at he; subst he
                    exact ⟨_, rfl, hK _ _ g rfl⟩
                  -- 9: ref.go:162 unOp
                  apply told_is
                  · intro W f hW hE h0 K hK
                    have e35 : f 35 = _ := hE 0 35 _ rfl (by kernel_rfl)
                    have e30 : f 30 = _ := hE 5 30 _ rfl (by kernel_rfl)
                    clear hE h0
                    refine yes_of (want_yes rfl rfl e30) ?_
                    go_simp; exact hK _ _ (gb_refl _ _) rfl
                  -- 10: ref.go:162 pick
                  apply told_is
                  · intro W f hW hE h0 K hK
                    have e30 : f 30 = _ := hE 6 30 _ rfl (by kernel_rfl)
                    have e36 : f 36 = _ := hE 0 36 _ rfl (by kernel_rfl)
                    clear hE h0
                    refine yes_of (want_free rfl) ?_
                    go_simp; exact hK _ _ (gb_refl _ _) rfl
                  -- 11: ref.go:162 move
                  apply told_is
                  · intro W f hW hE h0 K hK
                    have e37 : f 37 = _ := hE 0 37 _ rfl (by kernel_rfl)
                    clear hE h0
                    refine yes_of (want_free rfl) ?_
                    go_simp; exact hK _ _ (gb_refl _ _) rfl
                  -- 12: ref.go:162 move
                  apply told_is
                  · intro W f hW hE h0 K hK
                    have e3 := h0 3 (by kernel_rfl)
                    conv at e3 => rhs; whnf
                    have e38 : f 38 = _ := hE 0 38 _ rfl (by kernel_rfl)
                    clear hE h0
                    refine yes_of (want_yes rfl rfl e38) ?_
                    go_simp; exact hK _ _ (gb_refl _ _) rfl
                  -- 13: ref.go:162 binOp
                  apply told_is
                  · intro W f hW hE h0 K hK
                    have e39 : f 39 = _ := hE 0 39 _ rfl (by kernel_rfl)
                    have e38 : f 38 = _ := hE 1 38 _ rfl (by kernel_rfl)
                    clear hE h0
                    refine yes_of (want_yes rfl rfl e38) ?_
                    have h1 := Hk1.out
                    have h2 := Hk2.out
                    go_simp; exact hK _ _ (gb_refl _ _) rfl
                  -- 14: ref.go:162 move
                  apply told_is
                  · intro W f hW hE h0 K hK
                    have e40 : f 40 = _ := hE 0 40 _ rfl (by kernel_rfl)
                    have e38 : f 38 = _ := hE 2 38 _ rfl (by kernel_rfl)
                    clear hE h0
                    refine yes_of (want_yes rfl rfl e38) ?_
                    go_simp; exact hK _ _ (gb_refl _ _) rfl
                  -- 15: ref.go:162 fieldAddr
                  apply told_is
                  · intro W f hW hE h0 K hK
                    have e1 := h0 1 (by kernel_rfl)
                    conv at e1 => rhs; whnf
                    have e41 : f 41 = _ := hE 0 41 _ rfl (by kernel_rfl)
                    clear hE h0
                    refine yes_of (want_yes rfl rfl e41) ?_
                    go_simp; exact hK _ _ (gb_refl _ _) rfl
                  -- 16: ref.go:162 load
                  apply told_is
                  · intro W f hW hE h0 K hK
                    have e42 : f 42 = _ := hE 0 42 _ rfl (by kernel_rfl)
                    have e41 : f 41 = _ := hE 1 41 _ rfl (by kernel_rfl)
                    clear hE h0
                    refine yes_of (want_yes rfl rfl e41) ?_
                    obtain ⟨y0, y1, y2⟩ := HB.out W hW
                    go_simp; exact hK _ _ (gb_refl _ _) rfl
                  -- 17: ref.go:162 move
                  apply told_is
                  · intro W f hW hE h0 K hK
                    have e3 := h0 3 (by kernel_rfl)
                    conv at e3 => rhs; whnf
                    have e41 : f 41 = _ := hE 2 41 _ rfl (by kernel_rfl)
                    clear hE h0
                    refine yes_of (want_yes rfl rfl e41) ?_
                    go_simp; exact hK _ _ (gb_refl _ _) rfl
                  -- 18: ref.go:162 binOp
                  apply told_is
                  · intro W f hW hE h0 K hK
                    have e44 : f 44 = _ := hE 0 44 _ rfl (by kernel_rfl)
                    have e41 : f 41 = _ := hE 3 41 _ rfl (by kernel_rfl)
                    clear hE h0
                    refine yes_of (want_yes rfl rfl e41) ?_
                    have hw := Hw.out
                    go_simp; exact hK _ _ (gb_refl _ _) rfl
                  -- 19: ref.go:162 indexAddr
                  apply told_is
                  · intro W f hW hE h0 K hK
                    have e43 : f 43 = _ := hE 2 43 _ rfl (by kernel_rfl)
                    have e45 : f 45 = _ := hE 0 45 _ rfl (by kernel_rfl)
                    have e41 : f 41 = _ := hE 4 41 _ rfl (by kernel_rfl)
                    clear hE h0
                    refine yes_of (want_yes rfl rfl e41) ?_
                    go_simp; exact hK _ _ (gb_refl _ _) rfl
                  -- 20: ref.go:162 fieldAddr
                  apply told_is
                  · intro W f hW hE h0 K hK
                    have e46 : f 46 = _ := hE 0 46 _ rfl (by kernel_rfl)
                    have e41 : f 41 = _ := hE 5 41 _ rfl (by kernel_rfl)
                    clear hE h0
                    refine yes_of (want_yes rfl rfl e41) ?_
                    go_simp; exact hK _ _ (gb_refl _ _) rfl
                  -- 21: ref.go:162 load
                  apply told_is
                  · intro W f hW hE h0 K hK
                    have e47 : f 47 = _ := hE 0 47 _ rfl (by kernel_rfl)
                    have e41 : f 41 = _ := hE 6 41 _ rfl (by kernel_rfl)
                    clear hE h0
                    refine yes_of (want_yes rfl rfl e41) ?_
                    obtain ⟨q0, q1, q2, q3, q4, q5⟩ := HZ.out W hW
                    go_simp; exact hK _ _ (gb_refl _ _) rfl
                  -- 22: ref.go:162 fieldAddr
                  apply told_is
                  · intro W f hW hE h0 K hK
                    have e4 := h0 4 (by kernel_rfl)
                    conv at e4 => rhs; whnf
                    have e41 : f 41 = _ := hE 7 41 _ rfl (by kernel_rfl)
                    clear hE h0
                    refine yes_of (want_yes rfl rfl e41) ?_
                    go_simp; exact hK _ _ (gb_refl _ _) rfl
                  -- 23: ref.go:162 load
                  apply told_is
                  · intro W f hW hE h0 K hK
                    have e49 : f 49 = _ := hE 0 49 _ rfl (by kernel_rfl)
                    have e41 : f 41 = _ := hE 8 41 _ rfl (by kernel_rfl)
                    clear hE h0
                    refine yes_of (want_yes rfl rfl e41) ?_
                    obtain ⟨y0, y1, y2⟩ := HB.out W hW
                    obtain ⟨q0, q1, q2, q3, q4, q5⟩ := y2
                    go_simp; exact hK _ _ (gb_refl _ _) rfl
                  -- 24: ref.go:162 call
                  apply told_is
                  · intro W f hW hE h0 K hK
                    have e48 : f 48 = _ := hE 2 48 _ rfl (by kernel_rfl)
                    have e50 : f 50 = _ := hE 0 50 _ rfl (by kernel_rfl)
                    have e41 : f 41 = _ := hE 9 41 _ rfl (by kernel_rfl)
                    clear hE h0
                    refine yes_of (want_yes rfl rfl e41) ?_
                    go_simp
                    refine (refCmp_any _ _ _ _ _).mono ?_
                    rintro e w1' ⟨he, g⟩; rw [HCV.out] at he; subst he
                    exact ⟨_, rfl, hK _ _ g rfl⟩
                  -- 25: ref.go:162 binOp
                  apply told_is
                  · intro W f hW hE h0 K hK
                    have e51 : f 51 = _ := hE 0 51 _ rfl (by kernel_rfl)
                    have e41 : f 41 = _ := hE 10 41 _ rfl (by kernel_rfl)
                    clear hE h0
                    refine yes_of (want_yes rfl rfl e41) ?_
                    have hq := Hq.out
                    go_simp; exact hK _ _ (gb_refl _ _) rfl
                  -- 26: ref.go:162 pick
                  apply told_is
                  · intro W f hW hE h0 K hK
                    have e41 : f 41 = _ := hE 11 41 _ rfl (by kernel_rfl)
                    have e52 : f 52 = _ := hE 0 52 _ rfl (by kernel_rfl)
                    have e38 : f 38 = _ := hE 14 38 _ rfl (by kernel_rfl)
                    clear hE h0
                    refine yes_of (want_yes rfl rfl e38) ?_
                    go_simp; exact hK _ _ (gb_refl _ _) rfl
                  -- 27: ref.go:162 pick
                  apply told_is
                  · intro W f hW hE h0 K hK
                    have e38 : f 38 = _ := hE 15 38 _ rfl (by kernel_rfl)
                    have e53 : f 53 = _ := hE 0 53 _ rfl (by kernel_rfl)
                    clear hE h0
                    refine yes_of (want_free rfl) ?_
                    go_simp; exact hK _ _ (gb_refl _ _) rfl
                  intro W f hW hA
                  simp only [lexIn, Act.put, List.setIfInBounds_toArray, List.set_cons_zero, List.set_cons_succ]
                  have e54 : f 54 = _ := hA 0 (some 54) _ rfl
                  rw [e54]
                  clear hA
                  go_wp2_with fail
                  go_ret
                  exact ⟨⟨false, rfl, by simp [Hno.out]⟩, gb_none HG1.out (gb_none Hg.out hW)⟩
            · have HhB : Hid (hasB rs x.d x.n = false) := by show _ = _; rw [Bool.eq_false_iff, ne_eq, hasB_iff]; exact hh
              have Hno : Hid (¬ MayS ⟨rs, l⟩) := not_has Hx.out hh
              clear hh
              go_upto_region 7 with fail
              clear y0 y1 h0 h1 h2 h3 h4 h5
              apply wp_region_told (le := fun a b => a.grownBy b none) [isV _, isV _, isV _, isV _, isV _, isV _, isV _, isV _, isV _, isV _, isV _, isV _, isV _, isV _, isV _, isV _, isV _, isV _, isV _, isV _, isV _, isV _, isV _, isV _, isV _, isV _, isV _, isV _]
              case hn => rfl
              case hm => kernel_rfl
              case hB => kernel_rfl
              case ht => exact fun _ _ _ h k => gb_none h k
              case hw => exact gb_drew (gb_refl _ _)
              -- 0: ref.go:162 load
              apply told_is
              · intro W f hW hE h0 K hK
                have e4 := h0 4 (by kernel_rfl)
                conv at e4 => rhs; whnf
                clear hE h0
                refine yes_of (want_free rfl) ?_
                obtain ⟨y0, y1, y2⟩ := HB.out W hW
                obtain ⟨q0, q1, q2, q3, q4, q5⟩ := y2
                go_simp; exact hK _ _ (gb_refl _ _) rfl
              -- 1: ref.go:162 call
              apply told_is
              · intro W f hW hE h0 K hK
                have e27 : f 27 = _ := hE 0 27 _ rfl (by kernel_rfl)
                clear hE h0
                refine yes_of (want_free rfl) ?_
                go_simp
                refine (refRight_any x _).mono ?_
                rintro e w1' ⟨he, g⟩; rw [HR.out] at he; subst he
                exact ⟨_, rfl, hK _ _ g rfl⟩
              -- 2: ref.go:162 unOp
              apply told_is
              · intro W f hW hE h0 K hK
                have e28 : f 28 = _ := hE 0 28 _ rfl (by kernel_rfl)
                clear hE h0
                refine yes_of (want_free rfl) ?_
                go_simp; exact hK _ _ (gb_refl _ _) rfl
              -- 3: ref.go:162 move
              apply told_is
              · intro W f hW hE h0 K hK
                have e29 : f 29 = _ := hE 0 29 _ rfl (by kernel_rfl)
                clear hE h0
                refine yes_of (want_free rfl) ?_
                go_simp; exact hK _ _ (gb_refl _ _) rfl
              -- 4: ref.go:162 fieldAddr
              apply told_is
              · intro W f hW hE h0 K hK
                have e1 := h0 1 (by kernel_rfl)
                conv at e1 => rhs; whnf
                have e30 : f 30 = _ := hE 0 30 _ rfl (by kernel_rfl)
                clear hE h0
                refine yes_of (want_yes rfl rfl e30) ?_
                go_simp; exact hK _ _ (gb_refl _ _) rfl
              -- 5: ref.go:162 load
              apply told_is
              · intro W f hW hE h0 K hK
                have e31 : f 31 = _ := hE 0 31 _ rfl (by kernel_rfl)
                have e30 : f 30 = _ := hE 1 30 _ rfl (by kernel_rfl)
                clear hE h0
                refine yes_of (want_yes rfl rfl e30) ?_
                obtain ⟨y0, y1, y2⟩ := HB.out W hW
                go_simp; exact hK _ _ (gb_refl _ _) rfl
              -- 6: ref.go:162 fieldAddr
              apply told_is
              · intro W f hW hE h0 K hK
                have e4 := h0 4 (by kernel_rfl)
                conv at e4 => rhs; whnf
                have e30 : f 30 = _ := hE 2 30 _ rfl (by kernel_rfl)
                clear hE h0
                refine yes_of (want_yes rfl rfl e30) ?_
                go_simp; exact hK _ _ (gb_refl _ _) rfl
              -- 7: ref.go:162 load
              apply told_is
              · intro W f hW hE h0 K hK
                have e33 : f 33 = _ := hE 0 33 _ rfl (by kernel_rfl)
                have e30 : f 30 = _ := hE 3 30 _ rfl (by kernel_rfl)
                clear hE h0
                refine yes_of (want_yes rfl rfl e30) ?_
                obtain ⟨y0, y1, y2⟩ := HB.out W hW
                obtain ⟨q0, q1, q2, q3, q4, q5⟩ := y2
                go_simp; exact hK _ _ (gb_refl _ _) rfl
              -- 8: ref.go:162 call
              apply told_is
              · intro W f hW hE h0 K hK
                have e32 : f 32 = _ := hE 2 32 _ rfl (by kernel_rfl)
                have e34 : f 34 = _ := hE 0 34 _ rfl (by kernel_rfl)
                have e30 : f 30 = _ := hE 4 30 _ rfl (by kernel_rfl)
                clear hE h0
                refine yes_of (want_yes rfl rfl e30) ?_
                go_simp
                refine (HH.out W hW).mono ?_
                rintro e w1' ⟨he, g⟩; rw [HhB.out] at he; subst he
                exact ⟨_, rfl, hK _ _ g rfl⟩
              -- 9: ref.go:162 unOp
              apply told_is
              · intro W f hW hE h0 K hK
                have e35 : f 35 = _ := hE 0 35 _ rfl (by kernel_rfl)
                have e30 : f 30 = _ := hE 5 30 _ rfl (by kernel_rfl)
                clear hE h0
                refine yes_of (want_yes rfl rfl e30) ?_
                go_simp; exact hK _ _ (gb_refl _ _) rfl
              -- 10: ref.go:162 pick
              apply told_is
              · intro W f hW hE h0 K hK
                have e30 : f 30 = _ := hE 6 30 _ rfl (by kernel_rfl)
                have e36 : f 36 = _ := hE 0 36 _ rfl (by kernel_rfl)
                clear hE h0
                refine yes_of (want_free rfl) ?_
                go_simp; exact hK _ _ (gb_refl _ _) rfl
              -- 11: ref.go:162 move
              apply told_is
              · intro W f hW hE h0 K hK
                have e37 : f 37 = _ := hE 0 37 _ rfl (by kernel_rfl)
                clear hE h0
                refine yes_of (want_free rfl) ?_
                go_simp; exact hK _ _ (gb_refl _ _) rfl
              -- 12: ref.go:162 move
              apply told_is
              · intro W f hW hE h0 K hK
                have e38 : f 38 = _ := hE 0 38 _ rfl (by kernel_rfl)
                clear hE h0
                refine no_of (want_no rfl rfl e38 rfl) ?_
                exact hK _ _ (gb_refl _ _) rfl
              -- 13: ref.go:162 binOp
              apply told_is
              · intro W f hW hE h0 K hK
                have e38 : f 38 = _ := hE 1 38 _ rfl (by kernel_rfl)
                clear hE h0
                refine no_of (want_no rfl rfl e38 rfl) ?_
                exact hK _ _ (gb_refl _ _) rfl
              -- 14: ref.go:162 move
              apply told_is
              · intro W f hW hE h0 K hK
                have e38 : f 38 = _ := hE 2 38 _ rfl (by kernel_rfl)
                clear hE h0
                refine no_of (want_no rfl rfl e38 rfl) ?_
                exact hK _ _ (gb_refl _ _) rfl
              -- 15: ref.go:162 fieldAddr
              apply told_is
              · intro W f hW hE h0 K hK
                have e41 : f 41 = _ := hE 0 41 _ rfl (by kernel_rfl)
                clear hE h0
                refine no_of (want_no rfl rfl e41 rfl) ?_
                exact hK _ _ (gb_refl _ _) rfl
              -- 16: ref.go:162 load
              apply told_is
              · intro W f hW hE h0 K hK
                have e41 : f 41 = _ := hE 1 41 _ rfl (by kernel_rfl)
                clear hE h0
                refine no_of (want_no rfl rfl e41 rfl) ?_
                exact hK _ _ (gb_refl _ _) rfl
              -- 17: ref.go:162 move
              apply told_is
              · intro W f hW hE h0 K hK
                have e41 : f 41 = _ := hE 2 41 _ rfl (by kernel_rfl)
                clear hE h0
                refine no_of (want_no rfl rfl e41 rfl) ?_
                exact hK _ _ (gb_refl _ _) rfl
              -- 18: ref.go:162 binOp
              apply told_is
              · intro W f hW hE h0 K hK
                have e41 : f 41 = _ := hE 3 41 _ rfl (by kernel_rfl)
                clear hE h0
                refine no_of (want_no rfl rfl e41 rfl) ?_
                exact hK _ _ (gb_refl _ _) rfl
              -- 19: ref.go:162 indexAddr
              apply told_is
              · intro W f hW hE h0 K hK
                have e41 : f 41 = _ := hE 4 41 _ rfl (by kernel_rfl)
                clear hE h0
                refine no_of (want_no rfl rfl e41 rfl) ?_
                exact hK _ _ (gb_refl _ _) rfl
              -- 20: ref.go:162 fieldAddr
              apply told_is
              · intro W f hW hE h0 K hK
                have e41 : f 41 = _ := hE 5 41 _ rfl (by kernel_rfl)
                clear hE h0
                refine no_of (want_no rfl rfl e41 rfl) ?_
                exact hK _ _ (gb_refl _ _) rfl
              -- 21: ref.go:162 load
              apply told_is
              · intro W f hW hE h0 K hK
                have e41 : f 41 = _ := hE 6 41 _ rfl (by kernel_rfl)
                clear hE h0
                refine no_of (want_no rfl rfl e41 rfl) ?_
                exact hK _ _ (gb_refl _ _) rfl
              -- 22: ref.go:162 fieldAddr
              apply told_is
              · intro W f hW hE h0 K hK
                have e41 : f 41 = _ := hE 7 41 _ rfl (by kernel_rfl)
                clear hE h0
                refine no_of (want_no rfl rfl e41 rfl) ?_
                exact hK _ _ (gb_refl _ _) rfl
              -- 23: ref.go:162 load
              apply told_is
              · intro W f hW hE h0 K hK
                have e41 : f 41 = _ := hE 8 41 _ rfl (by kernel_rfl)
                clear hE h0
                refine no_of (want_no rfl rfl e41 rfl) ?_
                exact hK _ _ (gb_refl _ _) rfl
              -- 24: ref.go:162 call
              apply told_is
              · intro W f hW hE h0 K hK
                have e41 : f 41 = _ := hE 9 41 _ rfl (by kernel_rfl)
                clear hE h0
                refine no_of (want_no rfl rfl e41 rfl) ?_
                exact hK _ _ (gb_refl _ _) rfl
              -- 25: ref.go:162 binOp
              apply told_is
              · intro W f hW hE h0 K hK
                have e41 : f 41 = _ := hE 10 41 _ rfl (by kernel_rfl)
                clear hE h0
                refine no_of (want_no rfl rfl e41 rfl) ?_
                exact hK _ _ (gb_refl _ _) rfl
              -- 26: ref.go:162 pick
              apply told_is
              · intro W f hW hE h0 K hK
                have e38 : f 38 = _ := hE 14 38 _ rfl (by kernel_rfl)
                clear hE h0
                refine no_of (want_no rfl rfl e38 rfl) ?_
                exact hK _ _ (gb_refl _ _) rfl
              -- 27: ref.go:162 pick
              apply told_is
              · intro W f hW hE h0 K hK
                have e38 : f 38 = _ := hE 15 38 _ rfl (by kernel_rfl)
                have e53 : f 53 = _ := hE 0 53 _ rfl (by kernel_rfl)
                clear hE h0
                refine yes_of (want_free rfl) ?_
                go_simp; exact hK _ _ (gb_refl _ _) rfl
              intro W f hW hA
              simp only [lexIn, Act.put, List.setIfInBounds_toArray, List.set_cons_zero, List.set_cons_succ]
              have e54 : f 54 = _ := hA 0 (some 54) _ rfl
              rw [e54]
              clear hA
              go_wp2_with fail
              go_ret
              exact ⟨⟨false, rfl, by simp [Hno.out]⟩, gb_none HG1.out (gb_none Hg.out hW)⟩
          · have HR : Hid (decide (RightF x) = false) := decide_eq_false hr
            have Hno : Hid (¬ MayS ⟨rs, l⟩) := not_right Hx.out hr
            clear hr
            go_upto_region 7 with fail
            clear y0 y1 h0 h1 h2 h3 h4 h5
            apply wp_region_told (le := fun a b => a.grownBy b none) [isV _, isV _, isV _, isV _, isV _, isV _, isV _, isV _, isV _, isV _, isV _, isV _, isV _, isV _, isV _, isV _, isV _, isV _, isV _, isV _, isV _, isV _, isV _, isV _, isV _, isV _, isV _, isV _]
            case hn => rfl
            case hm => kernel_rfl
            case hB => kernel_rfl
            case ht => exact fun _ _ _ h k => gb_none h k
            case hw => exact gb_drew (gb_refl _ _)
            -- 0: ref.go:162 load
            apply told_is
            · intro W f hW hE h0 K hK
              have e4 := h0 4 (by kernel_rfl)
              conv at e4 => rhs; whnf
              clear hE h0
              refine yes_of (want_free rfl) ?_
              obtain ⟨y0, y1, y2⟩ := HB.out W hW
              obtain ⟨q0, q1, q2, q3, q4, q5⟩ := y2
              go_simp; exact hK _ _ (gb_refl _ _) rfl
            -- 1: ref.go:162 call
            apply told_is
            · intro W f hW hE h0 K hK
              have e27 : f 27 = _ := hE 0 27 _ rfl (by kernel_rfl)
              clear hE h0
              refine yes_of (want_free rfl) ?_
              go_simp
              refine (refRight_any x _).mono ?_
              rintro e w1' ⟨he, g⟩; rw [HR.out] at he; subst he
              exact ⟨_, rfl, hK _ _ g rfl⟩
            -- 2: ref.go:162 unOp
            apply told_is
            · intro W f hW hE h0 K hK
              have e28 : f 28 = _ := hE 0 28 _ rfl (by kernel_rfl)
              clear hE h0
              refine yes_of (want_free rfl) ?_
              go_simp; exact hK _ _ (gb_refl _ _) rfl
            -- 3: ref.go:162 move
            apply told_is
            · intro W f hW hE h0 K hK
              have e29 : f 29 = _ := hE 0 29 _ rfl (by kernel_rfl)
              clear hE h0
              refine yes_of (want_free rfl) ?_
              go_simp; exact hK _ _ (gb_refl _ _) rfl
            -- 4: ref.go:162 fieldAddr
            apply told_is
            · intro W f hW hE h0 K hK
              have e30 : f 30 = _ := hE 0 30 _ rfl (by kernel_rfl)
              clear hE h0
              refine no_of (want_no rfl rfl e30 rfl) ?_
              exact hK _ _ (gb_refl _ _) rfl
            -- 5: ref.go:162 load
            apply told_is
            · intro W f hW hE h0 K hK
              have e30 : f 30 = _ := hE 1 30 _ rfl (by kernel_rfl)
              clear hE h0
              refine no_of (want_no rfl rfl e30 rfl) ?_
              exact hK _ _ (gb_refl _ _) rfl
            -- 6: ref.go:162 fieldAddr
            apply told_is
            · intro W f hW hE h0 K hK
              have e30 : f 30 = _ := hE 2 30 _ rfl (by kernel_rfl)
              clear hE h0
              refine no_of (want_no rfl rfl e30 rfl) ?_
              exact hK _ _ (gb_refl _ _) rfl
            -- 7: ref.go:162 load
            apply told_is
            · intro W f hW hE h0 K hK
              have e30 : f 30 = _ := hE 3 30 _ rfl (by kernel_rfl)
              clear hE h0
              refine no_of (want_no rfl rfl e30 rfl) ?_
              exact hK _ _ (gb_refl _ _) rfl
            -- 8: ref.go:162 call
            apply told_is
            · intro W f hW hE h0 K hK
              have e30 : f 30 = _ := hE 4 30 _ rfl (by kernel_rfl)
              clear hE h0
              refine no_of (want_no rfl rfl e30 rfl) ?_
              exact hK _ _ (gb_refl _ _) rfl
            -- 9: ref.go:162 unOp
            apply told_is
            · intro W f hW hE h0 K hK
              have e30 : f 30 = _ := hE 5 30 _ rfl (by kernel_rfl)
              clear hE h0
              refine no_of (want_no rfl rfl e30 rfl) ?_
              exact hK _ _ (gb_refl _ _) rfl
            -- 10: ref.go:162 pick
            apply told_is
            · intro W f hW hE h0 K hK
              have e30 : f 30 = _ := hE 6 30 _ rfl (by kernel_rfl)
              have e36 : f 36 = _ := hE 0 36 _ rfl (by kernel_rfl)
              clear hE h0
              refine yes_of (want_free rfl) ?_
              go_simp; exact hK _ _ (gb_refl _ _) rfl
            -- 11: ref.go:162 move
            apply told_is
            · intro W f hW hE h0 K hK
              have e37 : f 37 = _ := hE 0 37 _ rfl (by kernel_rfl)
              clear hE h0
              refine yes_of (want_free rfl) ?_
              go_simp; exact hK _ _ (gb_refl _ _) rfl
            -- 12: ref.go:162 move
            apply told_is
            · intro W f hW hE h0 K hK
              have e38 : f 38 = _ := hE 0 38 _ rfl (by kernel_rfl)
              clear hE h0
              refine no_of (want_no rfl rfl e38 rfl) ?_
              exact hK _ _ (gb_refl _ _) rfl
            -- 13: ref.go:162 binOp
            apply told_is
            · intro W f hW hE h0 K hK
              have e38 : f 38 = _ := hE 1 38 _ rfl (by kernel_rfl)
              clear hE h0
              refine no_of (want_no rfl rfl e38 rfl) ?_
              exact hK _ _ (gb_refl _ _) rfl
            -- 14: ref.go:162 move
            apply told_is
            · intro W f hW hE h0 K hK
              have e38 : f 38 = _ := hE 2 38 _ rfl (by kernel_rfl)
              clear hE h0
              refine no_of (want_no rfl rfl e38 rfl) ?_
              exact hK _ _ (gb_refl _ _) rfl
            -- 15: ref.go:162 fieldAddr
            apply told_is
            · intro W f hW hE h0 K hK
              have e41 : f 41 = _ := hE 0 41 _ rfl (by kernel_rfl)
              clear hE h0
              refine no_of (want_no rfl rfl e41 rfl) ?_
              exact hK _ _ (gb_refl _ _) rfl
            -- 16: ref.go:162 load
            apply told_is
            · intro W f hW hE h0 K hK
              have e41 : f 41 = _ := hE 1 41 _ rfl (by kernel_rfl)
              clear hE h0
              refine no_of (want_no rfl rfl e41 rfl) ?_
              exact hK _ _ (gb_refl _ _) rfl
            -- 17: ref.go:162 move
            apply told_is
            · intro W f hW hE h0 K hK
              have e41 : f 41 = _ := hE 2 41 _ rfl (by kernel_rfl)
              clear hE h0
              refine no_of (want_no rfl rfl e41 rfl) ?_
              exact hK _ _ (gb_refl _ _) rfl
            -- 18: ref.go:162 binOp
            apply told_is
            · intro W f hW hE h0 K hK
              have e41 : f 41 = _ := hE 3 41 _ rfl (by kernel_rfl)
              clear hE h0
              refine no_of (want_no rfl rfl e41 rfl) ?_
              exact hK _ _ (gb_refl _ _) rfl
            -- 19: ref.go:162 indexAddr
            apply told_is
            · intro W f hW hE h0 K hK
              have e41 : f 41 = _ := hE 4 41 _ rfl (by kernel_rfl)
              clear hE h0
              refine no_of (want_no rfl rfl e41 rfl) ?_
              exact hK _ _ (gb_refl _ _) rfl
            -- 20: ref.go:162 fieldAddr
            apply told_is
            · intro W f hW hE h0 K hK
              have e41 : f 41 = _ := hE 5 41 _ rfl (by kernel_rfl)
              clear hE h0
              refine no_of (want_no rfl rfl e41 rfl) ?_
              exact hK _ _ (gb_refl _ _) rfl
            -- 21: ref.go:162 load
            apply told_is
            · intro W f hW hE h0 K hK
              have e41 : f 41 = _ := hE 6 41 _ rfl (by kernel_rfl)
              clear hE h0
              refine no_of (want_no rfl rfl e41 rfl) ?_
              exact hK _ _ (gb_refl _ _) rfl
            -- 22: ref.go:162 fieldAddr
            apply told_is
            · intro W f hW hE h0 K hK
              have e41 : f 41 = _ := hE 7 41 _ rfl (by kernel_rfl)
              clear hE h0
              refine no_of (want_no rfl rfl e41 rfl) ?_
              exact hK _ _ (gb_refl _ _) rfl
            -- 23: ref.go:162 load
            apply told_is
            · intro W f hW hE h0 K hK
              have e41 : f 41 = _ := hE 8 41 _ rfl (by kernel_rfl)
              clear hE h0
              refine no_of (want_no rfl rfl e41 rfl) ?_
              exact hK _ _ (gb_refl _ _) rfl
            -- 24: ref.go:162 call
            apply told_is
            · intro W f hW hE h0 K hK
              have e41 : f 41 = _ := hE 9 41 _ rfl (by kernel_rfl)
              clear hE h0
              refine no_of (want_no rfl rfl e41 rfl) ?_
              exact hK _ _ (gb_refl _ _) rfl
            -- 25: ref.go:162 binOp
            apply told_is
            · intro W f hW hE h0 K hK
              have e41 : f 41 = _ := hE 10 41 _ rfl (by kernel_rfl)
              clear hE h0
              refine no_of (want_no rfl rfl e41 rfl) ?_
              exact hK _ _ (gb_refl _ _) rfl
            -- 26: ref.go:162 pick
            apply told_is
            · intro W f hW hE h0 K hK
              have e38 : f 38 = _ := hE 14 38 _ rfl (by kernel_rfl)
              clear hE h0
              refine no_of (want_no rfl rfl e38 rfl) ?_
              exact hK _ _ (gb_refl _ _) rfl
            -- 27: ref.go:162 pick
            apply told_is
            · intro W f hW hE h0 K hK
              have e38 : f 38 = _ := hE 15 38 _ rfl (by kernel_rfl)
              have e53 : f 53 = _ := hE 0 53 _ rfl (by kernel_rfl)
              clear hE h0
              refine yes_of (want_free rfl) ?_
              go_simp; exact hK _ _ (gb_refl _ _) rfl
            intro W f hW hA
            simp only [lexIn, Act.put, List.setIfInBounds_toArray, List.set_cons_zero, List.set_cons_succ]
            have e54 : f 54 = _ := hA 0 (some 54) _ rfl
            rw [e54]
            clear hA
            go_wp2_with fail
            go_ret
            exact ⟨⟨false, rfl, by simp [Hno.out]⟩, gb_none HG1.out (gb_none Hg.out hW)⟩
        · have hkn : k = n := by omega
          subst hkn
          have d1 : decide (k < k) = false := by simp
          have d2 : decide ((k : Int) < (k : Int)) = false := by simp
          have He : Hid (MayS ⟨rs, l⟩) := by
            show MayS ⟨rs, l⟩
            have h := HX.out
            rw [List.take_of_length_le (by rw [Hl.out.1]; exact Nat.le_refl _)] at h
            exact ⟨Hmay.out, by show l.length ≤ 400; rw [Hl.out.1]; exact H4.out, h.1, h.2⟩
          have Hend := Lib.hid (gb_none HG1.out hg)
          clear hg
          go_wp2_with fail
          go_ret
          exact ⟨⟨true, rfl, by simp [He.out]⟩, Hend.out⟩
    · have a1 : decide (400 < n) = true := decide_eq_true (by omega)
      have a2 : decide ((400 : Int) < (n : Int)) = true := decide_eq_true (by omega)
      have Hno : Hid (¬ MayS ⟨rs, l⟩) := fun h => h4 (by rw [← Hs.out.2.1]; exact h.2.1)
      clear h4
      go_enter Tryz.func17, Tryz.ntmps17
      go_upto_region 1 with fail
      clear hW0
      go_wp2_with (go_at_call 38; refine Hm.out.mono ?_; intro e W1 hh; obtain ⟨he, g1⟩ := Hans.out e W1 hh; clear hh; subst he; obtain ⟨k0, k1⟩ := HC.out W1 g1)
      go_ret
      exact ⟨⟨false, rfl, by simp [Hno.out]⟩, gb_none HG.out g1⟩
  · have Hans : Hid (∀ e w', MayIs rs W0 e w' → e = .returned (.bool false) ∧ W0.grownBy w' none) := fun e w' h => h.b.no hmay
    have Hno : Hid (¬ MayS ⟨rs, l⟩) := fun h => hmay h.1
    clear hmay
    go_enter Tryz.func17, Tryz.ntmps17
    go_upto_region 1 with fail
    clear hW0
    go_wp2_with (go_at_call 38; refine Hm.out.mono ?_; intro e W1 hh; obtain ⟨he, g1⟩ := Hans.out e W1 hh; clear hh; subst he; obtain ⟨k0, k1⟩ := HC.out W1 g1)
    go_ret
    exact ⟨⟨false, rfl, by simp [Hno.out]⟩, gb_none HG.out g1⟩
end Go.Proofs.YthijiefopcnclaaGreatDoor.Dt
