/- slices.Equal, Same: the program's and the document's. -/
import Derived.Test.YtblndpfgfakdeaaFtLeaf
import Derived.Test.YtblndpfgfakdeaaDtSame
namespace Go.Proofs.Ytblndpfgfakdeaa.Dt
open Go Go.RowKit Go.Proofs.Ytblndpfgfakdeaa.Mm Go.Proofs.Ytblndpfgfakdeaa.Td

theorem SameIs.yes {a b : List Rn} {w w' : World} {e : Ending} (h : SameIs a b w e w') (hp : a = b) : e = .returned (.bool true) ∧ w.grownBy w' none := BoolIs.yes (p := a = b) h hp
theorem SameIs.no {a b : List Rn} {w w' : World} {e : Ending} (h : SameIs a b w e w') (hp : ¬ a = b) : e = .returned (.bool false) ∧ w.grownBy w' none := BoolIs.no (p := a = b) h hp

set_option maxHeartbeats 8000000 in
set_option maxRecDepth 100000 in
theorem runsEq_any (A B : Option Addr) (n c m d : Nat) (a b : List Rn) (w : World) (ha : RL w A n a) (hb : RL w B m b) (hn : n ≤ 1099511627776) (hm : m ≤ 1099511627776) :
    Calls Try.prog 51 #[.slice A n c, .slice B m d] w (BoolIs (a = b) w) := by
  have Ha := Lib.hid ha
  have Hb := Lib.hid hb
  clear ha hb
  by_cases hnm : n = m
  · subst hnm
    have e0 : ((n : Int) != (n : Int)) = false := by simp
    go_enter Try.func51, Try.ntmps51
    go_wp2_with fail
    go_loopw [13] (fun i wr => ∃ k : Nat, k ≤ n ∧ i = .int .i64 k ∧ Hid (a.take k = b.take k) ∧ w.grownBy wr none) (fun i _ => n - (intOf i).toNat)
    case atStart => exact ⟨0, Nat.zero_le _, rfl, by show _ = _; rfl, gb_refl _ _⟩
    case round =>
      obtain ⟨k, hk, rfl, HX, hg⟩ := hrel
      by_cases hlt : k < n
      · have d1 : decide (k < n) = true := decide_eq_true hlt
        have d2 : decide ((k : Int) < (n : Int)) = true := decide_eq_true (by omega)
        have bk : (k : Int) < (n : Int) := by omega
        obtain ⟨g, o, rfl, hgl, hcc⟩ := (Ha.out.keep hg).2 (by omega)
        obtain ⟨g', o', rfl, hgl', hcc'⟩ := (Hb.out.keep hg).2 (by omega)
        obtain ⟨x, hx⟩ : ∃ x, a[k]? = some x := ⟨_, List.getElem?_eq_getElem (by rw [Ha.out.1]; exact hlt)⟩
        obtain ⟨y, hy⟩ : ∃ y, b[k]? = some y := ⟨_, List.getElem?_eq_getElem (by rw [Hb.out.1]; exact hlt)⟩
        obtain ⟨h0, h1, h2⟩ := hcc k x hx
        obtain ⟨i0, i1, i2⟩ := hcc' k y hy
        have Hx := Lib.hid hx
        have Hy := Lib.hid hy
        clear hcc hcc' hx hy
        have hq := fun (W : World) => runT_neq x y W
        have hG := runT_guard
        have hT := take_more Hx.out
        have hT2 := take_more Hy.out
        by_cases hxy : x = y
        · have he : eqR x y = true := (eqR_iff x y).2 hxy
          have Hnext : Hid (a.take (k + 1) = b.take (k + 1)) := by show _ = _; rw [hT, hT2, HX.out, hxy]
          rw [he] at hq
          clear hT hT2 hxy he
          go_wp2_with fail
          go_quiet (fail)
          go_wp2_with fail
          go_roundw
          case rel => exact ⟨k + 1, by omega, by go_num, Hnext, gb_drewN hg _⟩
          case measure => simp [intOf]; omega
        · have he : eqR x y = false := by
            cases h : eqR x y with
            | false => rfl
            | true => exact absurd ((eqR_iff x y).1 h) hxy
          have Hno : Hid (a ≠ b) := fun h => hxy (by
              have h1 := Hx.out
              rw [h, Hy.out] at h1
              exact (Option.some.inj h1).symm)
          rw [he] at hq
          clear hT hT2 hxy he
          go_wp2_with fail
          go_quiet (fail)
          go_wp2_with fail
          go_ret
          exact ⟨⟨false, rfl, by simp [Hno.out]⟩, gb_drewN hg _⟩
      · have hkn : k = n := by omega
        subst hkn
        have d1 : decide (k < k) = false := by simp
        have d2 : decide ((k : Int) < (k : Int)) = false := by simp
        have He : Hid (a = b) := by
          show a = b
          have h := HX.out
          rwa [List.take_of_length_le (by rw [Ha.out.1]; exact Nat.le_refl _), List.take_of_length_le (by rw [Hb.out.1]; exact Nat.le_refl _)] at h
        go_wp2_with fail
        go_ret
        exact ⟨⟨true, rfl, by simp [He.out]⟩, hg⟩
  · have e0 : ((n : Int) != (m : Int)) = true := by rw [bne_iff_ne]; omega
    have Hno : Hid (a ≠ b) := fun h => hnm (by rw [← Ha.out.1, ← Hb.out.1, h])
    clear hnm
    go_enter Try.func51, Try.ntmps51
    go_wp2_with fail
    go_ret
    exact ⟨⟨false, rfl, by simp [Hno.out]⟩, gb_refl _ _⟩

set_option maxHeartbeats 8000000 in
set_option maxRecDepth 100000 in
theorem factsEq_any (A B : Option Addr) (n c m d : Nat) (a b : List Fc) (w : World) (ha : FL w A n a) (hb : FL w B m b) (hn : n ≤ 1099511627776) (hm : m ≤ 1099511627776) :
    Calls Try.prog 52 #[.slice A n c, .slice B m d] w (BoolIs (a = b) w) := by
  have Ha := Lib.hid ha
  have Hb := Lib.hid hb
  clear ha hb
  by_cases hnm : n = m
  · subst hnm
    have e0 : ((n : Int) != (n : Int)) = false := by simp
    go_enter Try.func52, Try.ntmps52
    go_wp2_with fail
    go_loopw [13] (fun i wr => ∃ k : Nat, k ≤ n ∧ i = .int .i64 k ∧ Hid (a.take k = b.take k) ∧ w.grownBy wr none) (fun i _ => n - (intOf i).toNat)
    case atStart => exact ⟨0, Nat.zero_le _, rfl, by show _ = _; rfl, gb_refl _ _⟩
    case round =>
      obtain ⟨k, hk, rfl, HX, hg⟩ := hrel
      by_cases hlt : k < n
      · have d1 : decide (k < n) = true := decide_eq_true hlt
        have d2 : decide ((k : Int) < (n : Int)) = true := decide_eq_true (by omega)
        have bk : (k : Int) < (n : Int) := by omega
        obtain ⟨g, o, rfl, hgl, hcc⟩ := (Ha.out.keep hg).2 (by omega)
        obtain ⟨g', o', rfl, hgl', hcc'⟩ := (Hb.out.keep hg).2 (by omega)
        obtain ⟨x, hx⟩ : ∃ x, a[k]? = some x := ⟨_, List.getElem?_eq_getElem (by rw [Ha.out.1]; exact hlt)⟩
        obtain ⟨y, hy⟩ : ∃ y, b[k]? = some y := ⟨_, List.getElem?_eq_getElem (by rw [Hb.out.1]; exact hlt)⟩
        obtain ⟨h0, h1, h2, h3, h4, h5⟩ := hcc k x hx
        obtain ⟨i0, i1, i2, i3, i4, i5⟩ := hcc' k y hy
        have Hx := Lib.hid hx
        have Hy := Lib.hid hy
        clear hcc hcc' hx hy
        have hq := fun (W : World) => factT_neq x y W
        have hG := factT_guard
        have hT := ftake_more Hx.out
        have hT2 := ftake_more Hy.out
        by_cases hxy : x = y
        · have he : eqF x y = true := (eqF_iff x y).2 hxy
          have Hnext : Hid (a.take (k + 1) = b.take (k + 1)) := by show _ = _; rw [hT, hT2, HX.out, hxy]
          rw [he] at hq
          clear hT hT2 hxy he
          go_wp2_with fail
          go_quiet (fail)
          go_wp2_with fail
          go_roundw
          case rel => exact ⟨k + 1, by omega, by go_num, Hnext, gb_drewN hg _⟩
          case measure => simp [intOf]; omega
        · have he : eqF x y = false := by
            cases h : eqF x y with
            | false => rfl
            | true => exact absurd ((eqF_iff x y).1 h) hxy
          have Hno : Hid (a ≠ b) := fun h => hxy (by
              have h1 := Hx.out
              rw [h, Hy.out] at h1
              exact (Option.some.inj h1).symm)
          rw [he] at hq
          clear hT hT2 hxy he
          go_wp2_with fail
          go_quiet (fail)
          go_wp2_with fail
          go_ret
          exact ⟨⟨false, rfl, by simp [Hno.out]⟩, gb_drewN hg _⟩
      · have hkn : k = n := by omega
        subst hkn
        have d1 : decide (k < k) = false := by simp
        have d2 : decide ((k : Int) < (k : Int)) = false := by simp
        have He : Hid (a = b) := by
          show a = b
          have h := HX.out
          rwa [List.take_of_length_le (by rw [Ha.out.1]; exact Nat.le_refl _), List.take_of_length_le (by rw [Hb.out.1]; exact Nat.le_refl _)] at h
        go_wp2_with fail
        go_ret
        exact ⟨⟨true, rfl, by simp [He.out]⟩, hg⟩
  · have e0 : ((n : Int) != (m : Int)) = true := by rw [bne_iff_ne]; omega
    have Hno : Hid (a ≠ b) := fun h => hnm (by rw [← Ha.out.1, ← Hb.out.1, h])
    clear hnm
    go_enter Try.func52, Try.ntmps52
    go_wp2_with fail
    go_ret
    exact ⟨⟨false, rfl, by simp [Hno.out]⟩, gb_refl _ _⟩

set_option maxHeartbeats 8000000 in
set_option maxRecDepth 100000 in
theorem pSame_any (A B A' B' : Option Addr) (p c n d q c' m d' : Nat) (s t : St) (w : World) (hs : SL w A p B n s) (ht : SL w A' q B' m t) (hp : p ≤ 100000) (hn : n ≤ 100000) (hq : q ≤ 100000) (hm : m ≤ 100000) :
    Calls Try.prog 20 #[.agg #[.slice A p c, .slice B n d], .agg #[.slice A' q c', .slice B' m d']] w (BoolIs (s = t) w) := by
  obtain ⟨sa, a⟩ := s
  obtain ⟨sb, b⟩ := t
  obtain ⟨W0, hW0⟩ : ∃ W0, (w.alloc (.cells #[.slice A p c, .slice B n d] 26)).alloc (.cells #[.slice A' q c', .slice B' m d'] 26) = W0 := ⟨_, rfl⟩
  have G0 : w.grownBy W0 none := by rw [← hW0]; exact gb_alloc (gb_alloc (gb_refl _ _) _) _
  have hr0 : Row W0 w.heap.size 26 #[.slice A p c, .slice B n d] := by rw [← hW0]; exact (Row.new _ _ _).alloc _
  have hr1 : Row W0 (w.heap.size + 1) 26 #[.slice A' q c', .slice B' m d'] := by
    rw [← hW0]
    have h := Row.new (w.alloc (.cells #[.slice A p c, .slice B n d] 26)) 26 #[.slice A' q c', .slice B' m d']
    rwa [World.size_alloc] at h
  have HC : Hid (∀ W, W0.grownBy W none → W.cell? ⟨w.heap.size, 0, none⟩ = some (.slice A p c) ∧ W.cell? ⟨w.heap.size, 1, none⟩ = some (.slice B n d) ∧ W.cell? ⟨w.heap.size + 1, 0, none⟩ = some (.slice A' q c') ∧ W.cell? ⟨w.heap.size + 1, 1, none⟩ = some (.slice B' m d')) :=
    fun W hW => ⟨(hr0.kept hW (by simp)).at_ (i := 0) rfl, (hr0.kept hW (by simp)).at_ (i := 1) rfl, (hr1.kept hW (by simp)).at_ (i := 0) rfl, (hr1.kept hW (by simp)).at_ (i := 1) rfl⟩
  have Hs := Lib.hid (hs.keep G0)
  have Ht := Lib.hid (ht.keep G0)
  have HG := Lib.hid G0
  obtain ⟨z0, z1, z2, z3⟩ := HC.out W0 (gb_refl _ _)
  clear hr0 hr1 hs ht G0
  have Hseen := Lib.hid (runsEq_any A A' p c q c' sa sb W0 Hs.out.1 Ht.out.1 (by omega) (by omega))
  by_cases h1 : sa = sb
  · have Hyes : Hid (∀ e w', BoolIs (sa = sb) W0 e w' → e = .returned (.bool true) ∧ W0.grownBy w' none) := fun e w' h => h.yes h1
    have H1 := Lib.hid h1
    clear h1
    have HF : Hid (∀ W, W0.grownBy W none → Calls Try.prog 52 #[.slice B n d, .slice B' m d'] W (BoolIs (a = b) W)) := fun W hW => factsEq_any B B' n d m d' a b W (Hs.out.2.keep hW) (Ht.out.2.keep hW) (by omega) (by omega)
    go_enter Try.func20, Try.ntmps20
    go_upto_region 1 with fail
    clear hW0
    go_wp2_with (go_at_call 51; refine Hseen.out.mono ?_; intro e w1 hh; obtain ⟨he, g1⟩ := Hyes.out e w1 hh; clear hh; subst he; obtain ⟨y0, y1, y2, y3⟩ := HC.out w1 g1; have HF1 := Lib.hid (HF.out w1 g1))
    go_wp2_with (go_at_call 52; refine HF1.out.mono ?_; rintro e w2 ⟨⟨r, rfl, hr⟩, g2⟩)
    go_ret
    exact ⟨⟨r, rfl, by rw [hr, H1.out]; simp⟩, gb_none HG.out (gb_none g1 g2)⟩
  · have Hyes : Hid (∀ e w', BoolIs (sa = sb) W0 e w' → e = .returned (.bool false) ∧ W0.grownBy w' none) := fun e w' h => h.no h1
    have H1 := Lib.hid h1
    clear h1
    go_enter Try.func20, Try.ntmps20
    go_upto_region 1 with fail
    clear hW0
    go_wp2_with (go_at_call 51; refine Hseen.out.mono ?_; intro e w1 hh; obtain ⟨he, g1⟩ := Hyes.out e w1 hh; clear hh; subst he)
    go_ret
    exact ⟨⟨false, rfl, by simp [H1.out]⟩, gb_none HG.out g1⟩

set_option maxHeartbeats 8000000 in
set_option maxRecDepth 100000 in
theorem refSameSt_any (A B A' B' : Option Addr) (p c n d q c' m d' : Nat) (s t : St) (w : World) (hs : SL w A p B n s) (ht : SL w A' q B' m t) (hp : p ≤ 100000) (hn : n ≤ 100000) (hq : q ≤ 100000) (hm : m ≤ 100000) :
    Calls Try.prog 21 #[.agg #[.slice A p c, .slice B n d], .agg #[.slice A' q c', .slice B' m d']] w (BoolIs (s = t) w) := by
  obtain ⟨sa, a⟩ := s
  obtain ⟨sb, b⟩ := t
  obtain ⟨W0, hW0⟩ : ∃ W0, (w.alloc (.cells #[.slice A p c, .slice B n d] 26)).alloc (.cells #[.slice A' q c', .slice B' m d'] 26) = W0 := ⟨_, rfl⟩
  have G0 : w.grownBy W0 none := by rw [← hW0]; exact gb_alloc (gb_alloc (gb_refl _ _) _) _
  have hr0 : Row W0 w.heap.size 26 #[.slice A p c, .slice B n d] := by rw [← hW0]; exact (Row.new _ _ _).alloc _
  have hr1 : Row W0 (w.heap.size + 1) 26 #[.slice A' q c', .slice B' m d'] := by
    rw [← hW0]
    have h := Row.new (w.alloc (.cells #[.slice A p c, .slice B n d] 26)) 26 #[.slice A' q c', .slice B' m d']
    rwa [World.size_alloc] at h
  have HC : Hid (∀ W, W0.grownBy W none → W.cell? ⟨w.heap.size, 0, none⟩ = some (.slice A p c) ∧ W.cell? ⟨w.heap.size, 1, none⟩ = some (.slice B n d) ∧ W.cell? ⟨w.heap.size + 1, 0, none⟩ = some (.slice A' q c') ∧ W.cell? ⟨w.heap.size + 1, 1, none⟩ = some (.slice B' m d')) :=
    fun W hW => ⟨(hr0.kept hW (by simp)).at_ (i := 0) rfl, (hr0.kept hW (by simp)).at_ (i := 1) rfl, (hr1.kept hW (by simp)).at_ (i := 0) rfl, (hr1.kept hW (by simp)).at_ (i := 1) rfl⟩
  have Hs := Lib.hid (hs.keep G0)
  have Ht := Lib.hid (ht.keep G0)
  have HG := Lib.hid G0
  obtain ⟨z0, z1, z2, z3⟩ := HC.out W0 (gb_refl _ _)
  clear hr0 hr1 hs ht G0
  have Hseen := Lib.hid (refSame_any A A' p c q c' sa sb W0 Hs.out.1 Ht.out.1 (by omega) (by omega))
  by_cases h1 : sa = sb
  · have Hyes : Hid (∀ e w', SameIs sa sb W0 e w' → e = .returned (.bool true) ∧ W0.grownBy w' none) := fun e w' h => h.yes h1
    have H1 := Lib.hid h1
    clear h1
    by_cases hnm : n = m
    · subst hnm
      have e0 : ((n : Int) != (n : Int)) = false := by simp
      go_enter Try.func21, Try.ntmps21
      go_upto_region 1 with fail
      clear hW0
      go_wp2_with (go_at_call 53; refine Hseen.out.mono ?_; intro e w1 hh; obtain ⟨he, g1⟩ := Hyes.out e w1 hh; clear hh; subst he; obtain ⟨y0, y1, y2, y3⟩ := HC.out w1 g1)
      have HC1 : Hid (∀ W, w1.grownBy W none → W.cell? ⟨w.heap.size, 0, none⟩ = some (.slice A p c) ∧ W.cell? ⟨w.heap.size, 1, none⟩ = some (.slice B n d) ∧ W.cell? ⟨w.heap.size + 1, 0, none⟩ = some (.slice A' q c') ∧ W.cell? ⟨w.heap.size + 1, 1, none⟩ = some (.slice B' n d')) := fun W hW => HC.out W (gb_none g1 hW)
      have HGall : Hid (w.grownBy w1 none) := gb_none HG.out g1
      have Ha := Lib.hid (Hs.out.2.keep g1)
      have Hb := Lib.hid (Ht.out.2.keep g1)
      clear y0 y1 y2 y3 z0 z1 z2 z3 g1
      go_loopw [5] (fun i wr => ∃ k : Nat, k ≤ n ∧ i = .int .i64 k ∧ Hid (a.take k = b.take k) ∧ w1.grownBy wr none) (fun i _ => n - (intOf i).toNat)
      case atStart => exact ⟨0, Nat.zero_le _, rfl, by show _ = _; rfl, gb_refl _ _⟩
      case round =>
        obtain ⟨k, hk, rfl, HX, hg⟩ := hrel
        obtain ⟨y0, y1, y2, y3⟩ := HC1.out wr hg
        by_cases hlt : k < n
        · have d1 : decide (k < n) = true := decide_eq_true hlt
          have d2 : decide ((k : Int) < (n : Int)) = true := decide_eq_true (by omega)
          have bk : (k : Int) < (n : Int) := by omega
          obtain ⟨g, o, rfl, hgl, hcc⟩ := (Ha.out.keep hg).2 (by omega)
          obtain ⟨g', o', rfl, hgl', hcc'⟩ := (Hb.out.keep hg).2 (by omega)
          obtain ⟨x, hx⟩ : ∃ x, a[k]? = some x := ⟨_, List.getElem?_eq_getElem (by rw [Ha.out.1]; exact hlt)⟩
          obtain ⟨y, hy⟩ : ∃ y, b[k]? = some y := ⟨_, List.getElem?_eq_getElem (by rw [Hb.out.1]; exact hlt)⟩
          obtain ⟨h0, h1, h2, h3, h4, h5⟩ := hcc k x hx
          obtain ⟨i0, i1, i2, i3, i4, i5⟩ := hcc' k y hy
          have Hx := Lib.hid hx
          have Hy := Lib.hid hy
          clear hcc hcc' hx hy
          have hq := fun (W : World) => factT_neq x y W
          have hG := factT_guard
          have hT := ftake_more Hx.out
          have hT2 := ftake_more Hy.out
          by_cases hxy : x = y
          · have he : eqF x y = true := (eqF_iff x y).2 hxy
            have Hnext : Hid (a.take (k + 1) = b.take (k + 1)) := by show _ = _; rw [hT, hT2, HX.out, hxy]
            rw [he] at hq
            clear hT hT2 hxy he
            go_wp2_with fail
            go_quiet (fail)
            go_wp2_with fail
            go_roundw
            case rel => exact ⟨k + 1, by omega, by go_num, Hnext, gb_drewN hg _⟩
            case measure => simp [intOf]; omega
          · have he : eqF x y = false := by
              cases h : eqF x y with
              | false => rfl
              | true => exact absurd ((eqF_iff x y).1 h) hxy
            have Hno : Hid (a ≠ b) := fun h => hxy (by
                have h1 := Hx.out
                rw [h, Hy.out] at h1
                exact (Option.some.inj h1).symm)
            rw [he] at hq
            clear hT hT2 hxy he
            go_wp2_with fail
            go_quiet (fail)
            go_wp2_with fail
            go_ret
            exact ⟨⟨false, rfl, by simp [Hno.out]⟩, gb_drewN (gb_none HGall.out hg) _⟩
        · have hkn : k = n := by omega
          subst hkn
          have d1 : decide (k < k) = false := by simp
          have d2 : decide ((k : Int) < (k : Int)) = false := by simp
          have He : Hid (a = b) := by
            show a = b
            have h := HX.out
            rwa [List.take_of_length_le (by rw [Ha.out.1]; exact Nat.le_refl _), List.take_of_length_le (by rw [Hb.out.1]; exact Nat.le_refl _)] at h
          go_wp2_with fail
          go_ret
          exact ⟨⟨true, rfl, by simp [H1.out, He.out]⟩, gb_none HGall.out hg⟩
    · have e0 : ((n : Int) != (m : Int)) = true := by rw [bne_iff_ne]; omega
      have Hno : Hid (a ≠ b) := fun h => hnm (by rw [← Hs.out.2.1, ← Ht.out.2.1]; exact congrArg List.length h)
      clear hnm
      go_enter Try.func21, Try.ntmps21
      go_upto_region 1 with fail
      clear hW0
      go_wp2_with (go_at_call 53; refine Hseen.out.mono ?_; intro e w1 hh; obtain ⟨he, g1⟩ := Hyes.out e w1 hh; clear hh; subst he; obtain ⟨y0, y1, y2, y3⟩ := HC.out w1 g1)
      go_ret
      exact ⟨⟨false, rfl, by simp [Hno.out]⟩, gb_none HG.out g1⟩
  · have Hyes : Hid (∀ e w', SameIs sa sb W0 e w' → e = .returned (.bool false) ∧ W0.grownBy w' none) := fun e w' h => h.no h1
    have H1 := Lib.hid h1
    clear h1
    go_enter Try.func21, Try.ntmps21
    go_upto_region 1 with fail
    clear hW0
    go_wp2_with (go_at_call 53; refine Hseen.out.mono ?_; intro e w1 hh; obtain ⟨he, g1⟩ := Hyes.out e w1 hh; clear hh; subst he)
    go_ret
    exact ⟨⟨false, rfl, by simp [H1.out]⟩, gb_none HG.out g1⟩

set_option maxHeartbeats 8000000 in
set_option maxRecDepth 100000 in
theorem sameFacts_any (A B : Option Addr) (n c m d : Nat) (a b : List Fc) (w : World) (ha : FL w A n a) (hb : FL w B m b) (hn : n ≤ 100000) (hm : m ≤ 100000) :
    Calls Try.prog 17 #[.slice A n c, .slice B m d] w (BoolIs (a = b) w) := by
  have H := Lib.hid (refSameSt_any none A none B 0 0 n c 0 0 m d ⟨[], a⟩ ⟨[], b⟩ w ⟨RL.none _ _, ha⟩ ⟨RL.none _ _, hb⟩ (by omega) hn (by omega) hm)
  clear ha hb
  go_enter Try.func17, Try.ntmps17
  go_wp2_with (go_at_call 21; refine H.out.mono ?_; rintro e w1 ⟨⟨r, rfl, hr⟩, g1⟩)
  go_ret
  exact ⟨⟨r, rfl, by rw [hr]; simp⟩, g1⟩
theorem sameFacts_yes (A B : Option Addr) (n c m d : Nat) (a b : List Fc) (w : World) (ha : FL w A n a) (hb : FL w B m b) (h : a = b) (hn : n ≤ 100000) (hm : m ≤ 100000) :
    Calls Try.prog 17 #[.slice A n c, .slice B m d] w fun e w' => e = .returned (.bool true) ∧ w.grownBy w' none := (sameFacts_any A B n c m d a b w ha hb hn hm).mono fun _ _ k => k.yes h
end Go.Proofs.Ytblndpfgfakdeaa.Dt
