/- The document's Join. -/
import Derived.Test.YthijiefopcnclaaGreatDoorFtC
import Derived.Test.YthijiefopcnclaaGreatDoorFtFindW
import Derived.Test.YthijiefopcnclaaGreatDoorDtC
import Derived.Test.YthijiefopcnclaaGreatDoorTdA
import Derived.Deep.DeepCutAuto
namespace Go.Proofs.YthijiefopcnclaaGreatDoor.Dt
open Go Go.RowKit Go.Proofs.YthijiefopcnclaaGreatDoor.Mm Go.Proofs.YthijiefopcnclaaGreatDoor.Td

/-- A state that was told. -/
def States (s : St) (w : World) (e : Ending) (w' : World) : Prop := ∃ A n c B m d, e = .returned (.agg #[.slice A n c, .slice B m d]) ∧ SL w' A n B m s ∧ n ≤ c ∧ m ≤ d ∧ w.grownBy w' none
/-- Runs stay where a box of two slices is written. -/
theorem rl_beside {w w' : World} {A : Option Addr} {n h : Nat} {l : List Rn} {t : TypeId} {A1 A2 : Option Addr} {n1 c1 n2 c2 : Nat} (hr : RL w A n l) (hg : w.grownBy w' (some h)) (hrow : Row w h t #[.slice A1 n1 c1, .slice A2 n2 c2]) : RL w' A n l := by
  refine ⟨hr.1, fun h0 => ?_⟩
  obtain ⟨g, o, e, hl, hc⟩ := hr.2 h0
  obtain ⟨x, hx⟩ : ∃ x, l[0]? = some x := ⟨_, List.getElem?_eq_getElem (by rw [hr.1]; exact h0)⟩
  have hne : some g ≠ some h := by
    intro e2
    obtain rfl := Option.some.inj e2
    have h1 := (hc 0 x hx).1
    rw [hrow.get] at h1
    obtain ⟨j, hj⟩ : ∃ j, j = o + 0 * 3 := ⟨_, rfl⟩
    rw [← hj] at h1
    match j, h1 with
    | 0, h1 => simp at h1
    | 1, h1 => simp at h1
    | j + 2, h1 => simp at h1
  refine ⟨g, o, e, Nat.lt_of_lt_of_le hl hg.size, fun i y hy => ?_⟩
  have hb := hg.block g hl hne
  obtain ⟨c0, c1, c2⟩ := hc i y hy
  exact ⟨(World.cell?_of_block (a := ⟨g, o + i * 3, none⟩) hb).trans c0, (World.cell?_of_block (a := ⟨g, o + i * 3 + 1, none⟩) hb).trans c1, (World.cell?_of_block (a := ⟨g, o + i * 3 + 2, none⟩) hb).trans c2⟩
/-- A slice of a block of its own that holds a fact. -/
def factV (x : Fc) : Td.Spec := fun W v => ∃ g, v = .slice (some ⟨g, 0, none⟩) 1 1 ∧ Row W g 46 #[.int .i64 x.d, .int .i64 x.n, .string x.key, .int .i64 x.kind, .string x.item, .int .i64 x.v]
theorem factV_stays {x : Fc} : Stays (fun a b => a.grownBy b none) (factV x) := fun _ _ _ h ⟨g, e, hr⟩ => ⟨g, e, hr.kept h (by simp)⟩
theorem own_block6 {w : World} {B n : Nat} {t : TypeId} {v : Value} {xs : List Value} (h : w.ownsRow B t 6 v (n + 1) xs) : ∃ g c, v = .slice (some ⟨g, 0, none⟩) (n + 1) c := by
  rcases h.2 with ⟨_, h0⟩ | ⟨g, cap, cur, rfl, _⟩
  · cases h0
  · exact ⟨g, cap, rfl⟩
theorem own_fl' {w : World} {B n c : Nat} {t : TypeId} {A : Option Addr} {l : List Fc} (h : w.ownsRow B t 6 (.slice A n c) n (fv l)) (hn : l.length = n) : FL w A n l := by
  obtain ⟨A', c', e, hf, _⟩ := own_fl h hn
  cases e
  exact hf
attribute [local go_sem] Td.upon_value Td.upon_skip Td.upon_enter Td.upon_row Td.look_tmp Td.look_const Td.look_func Td.look_global
set_option maxHeartbeats 40000000 in
set_option maxRecDepth 100000 in
theorem refJoin_any (A B A' B' : Option Addr) (p c n d q c' m d' : Nat) (s t : St) (w : World) (hs : SL w A p B n s) (ht : SL w A' q B' m t) (ss : SS s) (st : SS t) (hp : p ≤ 10000) (hn : n ≤ 10000) (hq : q ≤ 10000) (hm : m ≤ 10000) :
    Calls Tryz.prog 35 #[.agg #[.slice A p c, .slice B n d], .agg #[.slice A' q c', .slice B' m d']] w (States (joinS s t) w) := by
  obtain ⟨W0, hW0⟩ : ∃ W0, ((w.alloc (.cells #[.slice A p c, .slice B n d] 25)).alloc (.cells #[.slice A' q c', .slice B' m d'] 25)).alloc (.cells #[.slice none 0 0, .slice none 0 0] 25) = W0 := ⟨_, rfl⟩
  obtain ⟨h0, hh0⟩ : ∃ h0, w.heap.size = h0 := ⟨_, rfl⟩
  have G0 : w.grownBy W0 none := by rw [← hW0]; exact gb_alloc (gb_alloc (gb_alloc (gb_refl _ _) _) _) _
  have hr0 : Row W0 h0 25 #[.slice A p c, .slice B n d] := by rw [← hW0, ← hh0]; exact ((Row.new _ _ _).alloc _).alloc _
  have hr1 : Row W0 (h0 + 1) 25 #[.slice A' q c', .slice B' m d'] := by
    rw [← hW0, ← hh0]
    have h := Row.new (w.alloc (.cells #[.slice A p c, .slice B n d] 25)) 25 #[.slice A' q c', .slice B' m d']
    rw [World.size_alloc] at h
    exact h.alloc _
  have hr2 : Row W0 (h0 + 1 + 1) 25 #[.slice none 0 0, .slice none 0 0] := by
    rw [← hW0, ← hh0]
    have h := Row.new ((w.alloc (.cells #[.slice A p c, .slice B n d] 25)).alloc (.cells #[.slice A' q c', .slice B' m d'] 25)) 25 #[.slice none 0 0, .slice none 0 0]
    rwa [World.size_alloc, World.size_alloc] at h
  have HC : Hid (∀ W, W0.grownBy W none → W.cell? ⟨h0, 0, none⟩ = some (.slice A p c) ∧ W.cell? ⟨h0, 1, none⟩ = some (.slice B n d) ∧ W.cell? ⟨h0 + 1, 0, none⟩ = some (.slice A' q c') ∧ W.cell? ⟨h0 + 1, 1, none⟩ = some (.slice B' m d')) :=
    fun W hW => ⟨(hr0.kept hW (by simp)).at_ (i := 0) rfl, (hr0.kept hW (by simp)).at_ (i := 1) rfl, (hr1.kept hW (by simp)).at_ (i := 0) rfl, (hr1.kept hW (by simp)).at_ (i := 1) rfl⟩
  have Hr2 := Lib.hid hr2
  have Hs := Lib.hid (hs.keep G0)
  have Ht := Lib.hid (ht.keep G0)
  have HG := Lib.hid G0
  have HSS : Hid (SS s ∧ SS t) := ⟨ss, st⟩
  have Hh0 := Lib.hid hh0
  obtain ⟨z0, z1, z2, z3⟩ := HC.out W0 (gb_refl _ _)
  have HU := Lib.hid (refUnion_any A A' p c q c' s.seen t.seen W0 Hs.out.1 Ht.out.1 ss.1 st.1 (by omega) (by omega))
  obtain ⟨i0, hi0, hz0, hz1, hz2⟩ := info_parts6 fact_inf
  have Hi0 := Lib.hid hi0
  have Hz0 := Lib.hid hz0
  have Hz1 := Lib.hid hz1
  have Hz2 := Lib.hid hz2
  clear hr0 hr1 hr2 hs ht ss st G0 hi0 hz0 hz1 hz2
  go_enter Tryz.func35, Tryz.ntmps35
  go_upto_region 1 with fail
  clear hW0 hh0
  go_upto_region 2 with (go_at_call 61; refine HU.out.mono ?_; rintro e w1 ⟨U, cu, rfl, hU, ⟨_, hcu⟩, g1⟩)
  obtain ⟨Lu, hLu⟩ : ∃ Lu, (unionR s.seen t.seen).length = Lu := ⟨_, rfl⟩
  obtain ⟨ob, hob⟩ : ∃ ob, w1.heap.size = ob := ⟨_, rfl⟩
  have Hob0 : Hid (Row (w1.alloc (.cells #[.slice U Lu cu, .slice none 0 0] 25)) ob 25 #[.slice U Lu cu, .slice none 0 0]) := by
    show Row _ _ _ _
    rw [← hob]; exact Row.new _ _ _
  rw [hLu] at hU hcu ⊢
  have Hcu := Lib.hid hcu
  clear hcu
  have HU1 := Lib.hid hU
  have HLu := Lib.hid hLu
  have Hob := Lib.hid hob
  have HG1 := Lib.hid g1
  have HG2 : Hid (w1.grownBy (w1.alloc (.cells #[.slice U Lu cu, .slice none 0 0] 25)) none) := gb_alloc (gb_refl _ _) _
  have HC1 : Hid (∀ W, w1.grownBy W none → W.cell? ⟨h0, 0, none⟩ = some (.slice A p c) ∧ W.cell? ⟨h0, 1, none⟩ = some (.slice B n d) ∧ W.cell? ⟨h0 + 1, 0, none⟩ = some (.slice A' q c') ∧ W.cell? ⟨h0 + 1, 1, none⟩ = some (.slice B' m d')) := fun W hW => HC.out W (gb_none HG1.out hW)
  have HLs := Lib.hid (Hs.out.2.keep g1)
  have HLt := Lib.hid (Ht.out.2.keep g1)
  rw [hob]
  clear hU hLu hob g1 z0 z1 z2 z3
  go_wp2_with fail
  go_loopw [6, 7] (fun iv kv wr => ∃ (iq kq : Nat) (L : List Fc) (v : Value), iq ≤ n ∧ kq ≤ m ∧ iv = .int .i64 iq ∧ kv = .int .i64 kq ∧ Hid (JI s t iq kq L) ∧ L.length ≤ iq + kq ∧ Row wr ob 25 #[.slice U Lu cu, v] ∧ wr.ownsRow (ob + 1) 46 6 v L.length (fv L) ∧ w1.grownBy wr none) (fun iv kv _ => (n - (intOf iv).toNat) + (m - (intOf kv).toNat))
  case atStart => exact ⟨0, 0, [], _, Nat.zero_le _, Nat.zero_le _, rfl, rfl, ji_nil s t, Nat.zero_le _, Hob0.out, World.ownsRow_nil _ _ _ _, HG2.out⟩
  case round =>
    obtain ⟨iq, kq, L, v, hin0, hkm0, rfl, rfl, HJ, hLn, hrow, hown, hg⟩ := hrel
    obtain ⟨N, hN⟩ : ∃ N, L.length = N := ⟨_, rfl⟩
    obtain ⟨A2, c2, hv, hfl, hle2⟩ := own_fl hown rfl
    subst hv
    rw [hN] at hown hfl hle2 hLn hrow
    have HN := Lib.hid hN
    have Hrow := Lib.hid hrow
    have Hown := Lib.hid hown
    have Hg := Lib.hid hg
    have Hle2 := Lib.hid hle2
    obtain ⟨y0, y1, y2, y3⟩ := HC1.out wr hg
    have HCr : Hid (∀ W, wr.grownBy W none → W.cell? ⟨h0, 0, none⟩ = some (.slice A p c) ∧ W.cell? ⟨h0, 1, none⟩ = some (.slice B n d) ∧ W.cell? ⟨h0 + 1, 0, none⟩ = some (.slice A' q c') ∧ W.cell? ⟨h0 + 1, 1, none⟩ = some (.slice B' m d')) := fun W hW => HC1.out W (gb_none Hg.out hW)
    clear hN hrow hown hfl hle2 hg
    by_cases hgo : iq < n ∨ kq < m
    · go_upto_region 3 with fail
      go_cut [27] (fun v wx => v = .bool true ∧ wr = wx)
      case first =>
        by_cases hin : iq < n
        · have d1 : decide (iq < n) = true := decide_eq_true hin
          have d2 : decide ((iq : Int) < (n : Int)) = true := decide_eq_true (by omega)
          go_wp2_with fail
          go_meet
          exact ⟨rfl, rfl⟩
        · have d1 : decide (iq < n) = false := decide_eq_false hin
          have d2 : decide ((iq : Int) < (n : Int)) = false := decide_eq_false (by omega)
          have d3 : decide (kq < m) = true := decide_eq_true (by omega)
          have d4 : decide ((kq : Int) < (m : Int)) = true := decide_eq_true (by omega)
          go_wp2_with fail
          go_meet
          exact ⟨rfl, rfl⟩
      case rest =>
      obtain ⟨rfl, rfl⟩ := hcut
      go_upto_region 4 with (fail)
      clear y0 y1 y2 y3
      go_cut [55] (fun v wx => ∃ tb : Bool, v = .bool tb ∧ (tb = true → iq < n ∧ ∀ x y, s.facts[iq]? = some x → t.facts[kq]? = some y → ¬ FLt y x) ∧ (tb = false → kq < m ∧ ∀ x y, s.facts[iq]? = some x → t.facts[kq]? = some y → FLt y x) ∧ wr.grownBy wx none)
      case first =>
        by_cases hkm : kq < m
        · have HE1 : Hid (((kq : Int) == (m : Int)) = false) := by show _ = _; rw [beq_eq_false_iff_ne]; omega
          by_cases hin : iq < n
          · have HI1 : Hid (decide (iq < n) = true) := decide_eq_true hin
            have HI2 : Hid (decide ((iq : Int) < (n : Int)) = true) := decide_eq_true (by omega)
            obtain ⟨x, hx⟩ : ∃ x, s.facts[iq]? = some x := ⟨_, List.getElem?_eq_getElem (by rw [HLs.out.1]; exact hin)⟩
            obtain ⟨y, hy⟩ : ∃ y, t.facts[kq]? = some y := ⟨_, List.getElem?_eq_getElem (by rw [HLt.out.1]; exact hkm)⟩
            obtain ⟨g, o, rfl, hgl, hcc⟩ := (HLs.out.keep Hg.out).2 (by omega)
            obtain ⟨g', o', rfl, hgl', hcc'⟩ := (HLt.out.keep Hg.out).2 (by omega)
            have HXx : Hid (∀ W, wr.grownBy W none → At6 W g (o + iq * 6) x) := fun W hW => (hcc iq x hx).keep hgl hW
            have HXy : Hid (∀ W, wr.grownBy W none → At6 W g' (o' + kq * 6) y) := fun W hW => (hcc' kq y hy).keep hgl' hW
            have bi : (iq : Int) < (n : Int) := by omega
            have bk : (kq : Int) < (m : Int) := by omega
            obtain ⟨cv, hcv⟩ : ∃ cv, cmpD x.d x.n y.d y.n = cv := ⟨_, rfl⟩
            have hle := cmp_le (x := x) (y := y)
            rw [hcv] at hle
            have HCV := Lib.hid hcv
            have Hx := Lib.hid hx
            have Hy := Lib.hid hy
            clear hcc hcc' hgl hgl' hx hy hcv
            by_cases hf : FLt y x
            · have Hq : Hid (decide (cv ≤ 0) = false) := by show _ = _; rw [hle, decide_eq_true hf]; rfl
              have Hf := Lib.hid hf
              have Hkm := Lib.hid hkm
              clear hle hf hkm hin
              apply wp_region_told (le := fun a b => a.grownBy b none) [isV _, isV _, isV _, isV _, isV _, isV _, isV _, isV _, isV _, isV _, isV _, isV _, isV _, isV _, isV _, isV _, isV _, isV _, isV _, isV _, isV _, isV _, isV _, isV _, isV _, isV _, isV _, isV _]
              case hn => rfl
              case hm => kernel_rfl
              case hB => kernel_rfl
              case ht => exact fun _ _ _ h k => gb_none h k
              case hw => exact gb_drew (gb_refl _ _)
              -- 0: ref.go:211 move
              apply told_is
              · intro W f hW hE h0 K hK
                have e7 := h0 7 (by kernel_rfl)
                conv at e7 => rhs; whnf
                clear hE h0
                refine yes_of (want_free rfl) ?_
                go_simp; exact hK _ _ (gb_refl _ _) rfl
              -- 1: ref.go:211 fieldAddr
              apply told_is
              · intro W f hW hE h0 K hK
                have e3 := h0 3 (by kernel_rfl)
                conv at e3 => rhs; whnf
                clear hE h0
                refine yes_of (want_free rfl) ?_
                go_simp; exact hK _ _ (gb_refl _ _) rfl
              -- 2: ref.go:211 load
              apply told_is
              · intro W f hW hE h0 K hK
                have e29 : f 29 = _ := hE 0 29 _ rfl (by kernel_rfl)
                clear hE h0
                refine yes_of (want_free rfl) ?_
                obtain ⟨y0, y1, y2, y3⟩ := HCr.out W hW
                go_simp; exact hK _ _ (gb_refl _ _) rfl
              -- 3: ref.go:211 call
              apply told_is
              · intro W f hW hE h0 K hK
                have e30 : f 30 = _ := hE 0 30 _ rfl (by kernel_rfl)
                clear hE h0
                refine yes_of (want_free rfl) ?_
                go_simp; exact hK _ _ (gb_refl _ _) rfl
              -- 4: ref.go:211 binOp
              apply told_is
              · intro W f hW hE h0 K hK
                have e28 : f 28 = _ := hE 3 28 _ rfl (by kernel_rfl)
                have e31 : f 31 = _ := hE 0 31 _ rfl (by kernel_rfl)
                clear hE h0
                refine yes_of (want_free rfl) ?_
                have t1 := HE1.out
                go_simp; exact hK _ _ (gb_refl _ _) rfl
              -- 5: ref.go:211 move
              apply told_is
              · intro W f hW hE h0 K hK
                have e32 : f 32 = _ := hE 0 32 _ rfl (by kernel_rfl)
                clear hE h0
                refine yes_of (want_free rfl) ?_
                go_simp; exact hK _ _ (gb_refl _ _) rfl
              -- 6: ref.go:211 move
              apply told_is
              · intro W f hW hE h0 K hK
                have e6 := h0 6 (by kernel_rfl)
                conv at e6 => rhs; whnf
                have e33 : f 33 = _ := hE 0 33 _ rfl (by kernel_rfl)
                clear hE h0
                refine yes_of (want_yes rfl rfl e33) ?_
                go_simp; exact hK _ _ (gb_refl _ _) rfl
              -- 7: ref.go:211 fieldAddr
              apply told_is
              · intro W f hW hE h0 K hK
                have e2 := h0 2 (by kernel_rfl)
                conv at e2 => rhs; whnf
                have e33 : f 33 = _ := hE 1 33 _ rfl (by kernel_rfl)
                clear hE h0
                refine yes_of (want_yes rfl rfl e33) ?_
                go_simp; exact hK _ _ (gb_refl _ _) rfl
              -- 8: ref.go:211 load
              apply told_is
              · intro W f hW hE h0 K hK
                have e35 : f 35 = _ := hE 0 35 _ rfl (by kernel_rfl)
                have e33 : f 33 = _ := hE 2 33 _ rfl (by kernel_rfl)
                clear hE h0
                refine yes_of (want_yes rfl rfl e33) ?_
                obtain ⟨y0, y1, y2, y3⟩ := HCr.out W hW
                go_simp; exact hK _ _ (gb_refl _ _) rfl
              -- 9: ref.go:211 call
              apply told_is
              · intro W f hW hE h0 K hK
                have e36 : f 36 = _ := hE 0 36 _ rfl (by kernel_rfl)
                have e33 : f 33 = _ := hE 3 33 _ rfl (by kernel_rfl)
                clear hE h0
                refine yes_of (want_yes rfl rfl e33) ?_
                go_simp; exact hK _ _ (gb_refl _ _) rfl
              -- 10: ref.go:211 binOp
              apply told_is
              · intro W f hW hE h0 K hK
                have e34 : f 34 = _ := hE 3 34 _ rfl (by kernel_rfl)
                have e37 : f 37 = _ := hE 0 37 _ rfl (by kernel_rfl)
                have e33 : f 33 = _ := hE 4 33 _ rfl (by kernel_rfl)
                clear hE h0
                refine yes_of (want_yes rfl rfl e33) ?_
                have t1 := HI1.out; have t2 := HI2.out
                go_simp; exact hK _ _ (gb_refl _ _) rfl
              -- 11: ref.go:211 move
              apply told_is
              · intro W f hW hE h0 K hK
                have e38 : f 38 = _ := hE 0 38 _ rfl (by kernel_rfl)
                have e33 : f 33 = _ := hE 5 33 _ rfl (by kernel_rfl)
                clear hE h0
                refine yes_of (want_yes rfl rfl e33) ?_
                go_simp; exact hK _ _ (gb_refl _ _) rfl
              -- 12: ref.go:211 fieldAddr
              apply told_is
              · intro W f hW hE h0 K hK
                have e2 := h0 2 (by kernel_rfl)
                conv at e2 => rhs; whnf
                have e39 : f 39 = _ := hE 0 39 _ rfl (by kernel_rfl)
                clear hE h0
                refine yes_of (want_yes rfl rfl e39) ?_
                go_simp; exact hK _ _ (gb_refl _ _) rfl
              -- 13: ref.go:211 load
              apply told_is
              · intro W f hW hE h0 K hK
                have e40 : f 40 = _ := hE 0 40 _ rfl (by kernel_rfl)
                have e39 : f 39 = _ := hE 1 39 _ rfl (by kernel_rfl)
                clear hE h0
                refine yes_of (want_yes rfl rfl e39) ?_
                obtain ⟨y0, y1, y2, y3⟩ := HCr.out W hW
                go_simp; exact hK _ _ (gb_refl _ _) rfl
              -- 14: ref.go:211 move
              apply told_is
              · intro W f hW hE h0 K hK
                have e6 := h0 6 (by kernel_rfl)
                conv at e6 => rhs; whnf
                have e39 : f 39 = _ := hE 2 39 _ rfl (by kernel_rfl)
                clear hE h0
                refine yes_of (want_yes rfl rfl e39) ?_
                go_simp; exact hK _ _ (gb_refl _ _) rfl
              -- 15: ref.go:211 indexAddr
              apply told_is
              · intro W f hW hE h0 K hK
                have e41 : f 41 = _ := hE 1 41 _ rfl (by kernel_rfl)
                have e42 : f 42 = _ := hE 0 42 _ rfl (by kernel_rfl)
                have e39 : f 39 = _ := hE 3 39 _ rfl (by kernel_rfl)
                clear hE h0
                refine yes_of (want_yes rfl rfl e39) ?_
                go_simp; exact hK _ _ (gb_refl _ _) rfl
              -- 16: ref.go:211 fieldAddr
              apply told_is
              · intro W f hW hE h0 K hK
                have e43 : f 43 = _ := hE 0 43 _ rfl (by kernel_rfl)
                have e39 : f 39 = _ := hE 4 39 _ rfl (by kernel_rfl)
                clear hE h0
                refine yes_of (want_yes rfl rfl e39) ?_
                go_simp; exact hK _ _ (gb_refl _ _) rfl
              -- 17: ref.go:211 load
              apply told_is
              · intro W f hW hE h0 K hK
                have e44 : f 44 = _ := hE 0 44 _ rfl (by kernel_rfl)
                have e39 : f 39 = _ := hE 5 39 _ rfl (by kernel_rfl)
                clear hE h0
                refine yes_of (want_yes rfl rfl e39) ?_
                obtain ⟨q0, q1, q2, q3, q4, q5⟩ := HXx.out W hW
                go_simp; exact hK _ _ (gb_refl _ _) rfl
              -- 18: ref.go:211 fieldAddr
              apply told_is
              · intro W f hW hE h0 K hK
                have e3 := h0 3 (by kernel_rfl)
                conv at e3 => rhs; whnf
                have e39 : f 39 = _ := hE 6 39 _ rfl (by kernel_rfl)
                clear hE h0
                refine yes_of (want_yes rfl rfl e39) ?_
                go_simp; exact hK _ _ (gb_refl _ _) rfl
              -- 19: ref.go:211 load
              apply told_is
              · intro W f hW hE h0 K hK
                have e46 : f 46 = _ := hE 0 46 _ rfl (by kernel_rfl)
                have e39 : f 39 = _ := hE 7 39 _ rfl (by kernel_rfl)
                clear hE h0
                refine yes_of (want_yes rfl rfl e39) ?_
                obtain ⟨y0, y1, y2, y3⟩ := HCr.out W hW
                go_simp; exact hK _ _ (gb_refl _ _) rfl
              -- 20: ref.go:211 move
              apply told_is
              · intro W f hW hE h0 K hK
                have e7 := h0 7 (by kernel_rfl)
                conv at e7 => rhs; whnf
                have e39 : f 39 = _ := hE 8 39 _ rfl (by kernel_rfl)
                clear hE h0
                refine yes_of (want_yes rfl rfl e39) ?_
                go_simp; exact hK _ _ (gb_refl _ _) rfl
              -- 21: ref.go:211 indexAddr
              apply told_is
              · intro W f hW hE h0 K hK
                have e47 : f 47 = _ := hE 1 47 _ rfl (by kernel_rfl)
                have e48 : f 48 = _ := hE 0 48 _ rfl (by kernel_rfl)
                have e39 : f 39 = _ := hE 9 39 _ rfl (by kernel_rfl)
                clear hE h0
                refine yes_of (want_yes rfl rfl e39) ?_
                go_simp; exact hK _ _ (gb_refl _ _) rfl
              -- 22: ref.go:211 fieldAddr
              apply told_is
              · intro W f hW hE h0 K hK
                have e49 : f 49 = _ := hE 0 49 _ rfl (by kernel_rfl)
                have e39 : f 39 = _ := hE 10 39 _ rfl (by kernel_rfl)
                clear hE h0
                refine yes_of (want_yes rfl rfl e39) ?_
                go_simp; exact hK _ _ (gb_refl _ _) rfl
              -- 23: ref.go:211 load
              apply told_is
              · intro W f hW hE h0 K hK
                have e50 : f 50 = _ := hE 0 50 _ rfl (by kernel_rfl)
                have e39 : f 39 = _ := hE 11 39 _ rfl (by kernel_rfl)
                clear hE h0
                refine yes_of (want_yes rfl rfl e39) ?_
                obtain ⟨q0, q1, q2, q3, q4, q5⟩ := HXy.out W hW
                go_simp; exact hK _ _ (gb_refl _ _) rfl
              -- 24: ref.go:211 call
              apply told_is
              · intro W f hW hE h0 K hK
                have e45 : f 45 = _ := hE 6 45 _ rfl (by kernel_rfl)
                have e51 : f 51 = _ := hE 0 51 _ rfl (by kernel_rfl)
                have e39 : f 39 = _ := hE 12 39 _ rfl (by kernel_rfl)
                clear hE h0
                refine yes_of (want_yes rfl rfl e39) ?_
                go_simp
                refine (refCmp_any _ _ _ _ _).mono ?_
                rintro e w1' ⟨he, g⟩; rw [HCV.out] at he; subst he
                exact ⟨_, rfl, hK _ _ g rfl⟩
              -- 25: ref.go:211 binOp
              apply told_is
              · intro W f hW hE h0 K hK
                have e52 : f 52 = _ := hE 0 52 _ rfl (by kernel_rfl)
                have e39 : f 39 = _ := hE 13 39 _ rfl (by kernel_rfl)
                clear hE h0
                refine yes_of (want_yes rfl rfl e39) ?_
                have hq := Hq.out
                go_simp; exact hK _ _ (gb_refl _ _) rfl
              -- 26: ref.go:211 pick
              apply told_is
              · intro W f hW hE h0 K hK
                have e39 : f 39 = _ := hE 14 39 _ rfl (by kernel_rfl)
                have e53 : f 53 = _ := hE 0 53 _ rfl (by kernel_rfl)
                have e33 : f 33 = _ := hE 20 33 _ rfl (by kernel_rfl)
                clear hE h0
                refine yes_of (want_yes rfl rfl e33) ?_
                go_simp; exact hK _ _ (gb_refl _ _) rfl
              -- 27: ref.go:211 pick
              apply told_is
              · intro W f hW hE h0 K hK
                have e33 : f 33 = _ := hE 21 33 _ rfl (by kernel_rfl)
                have e54 : f 54 = _ := hE 0 54 _ rfl (by kernel_rfl)
                clear hE h0
                refine yes_of (want_free rfl) ?_
                go_simp; exact hK _ _ (gb_refl _ _) rfl
              intro W f hW hA
              simp only [lexIn, Act.put, List.setIfInBounds_toArray, List.set_cons_zero, List.set_cons_succ]
              have e55 : f 55 = _ := hA 0 (some 55) _ rfl
              rw [e55]
              clear hA
              go_wp2_with fail
              go_meet
              exact ⟨false, rfl, (fun h => by cases h), fun _ => ⟨Hkm.out, fun x2 y2 e1 e2 => by rw [Hx.out] at e1; rw [Hy.out] at e2; cases e1; cases e2; exact Hf.out⟩, hW⟩
            · have Hq : Hid (decide (cv ≤ 0) = true) := by show _ = _; rw [hle, decide_eq_false hf]; rfl
              have Hf := Lib.hid hf
              have Hin := Lib.hid hin
              clear hle hf hkm hin
              apply wp_region_told (le := fun a b => a.grownBy b none) [isV _, isV _, isV _, isV _, isV _, isV _, isV _, isV _, isV _, isV _, isV _, isV _, isV _, isV _, isV _, isV _, isV _, isV _, isV _, isV _, isV _, isV _, isV _, isV _, isV _, isV _, isV _, isV _]
              case hn => rfl
              case hm => kernel_rfl
              case hB => kernel_rfl
              case ht => exact fun _ _ _ h k => gb_none h k
              case hw => exact gb_drew (gb_refl _ _)
              -- 0: ref.go:211 move
              apply told_is
              · intro W f hW hE h0 K hK
                have e7 := h0 7 (by kernel_rfl)
                conv at e7 => rhs; whnf
                clear hE h0
                refine yes_of (want_free rfl) ?_
                go_simp; exact hK _ _ (gb_refl _ _) rfl
              -- 1: ref.go:211 fieldAddr
              apply told_is
              · intro W f hW hE h0 K hK
                have e3 := h0 3 (by kernel_rfl)
                conv at e3 => rhs; whnf
                clear hE h0
                refine yes_of (want_free rfl) ?_
                go_simp; exact hK _ _ (gb_refl _ _) rfl
              -- 2: ref.go:211 load
              apply told_is
              · intro W f hW hE h0 K hK
                have e29 : f 29 = _ := hE 0 29 _ rfl (by kernel_rfl)
                clear hE h0
                refine yes_of (want_free rfl) ?_
                obtain ⟨y0, y1, y2, y3⟩ := HCr.out W hW
                go_simp; exact hK _ _ (gb_refl _ _) rfl
              -- 3: ref.go:211 call
              apply told_is
              · intro W f hW hE h0 K hK
                have e30 : f 30 = _ := hE 0 30 _ rfl (by kernel_rfl)
                clear hE h0
                refine yes_of (want_free rfl) ?_
                go_simp; exact hK _ _ (gb_refl _ _) rfl
              -- 4: ref.go:211 binOp
              apply told_is
              · intro W f hW hE h0 K hK
                have e28 : f 28 = _ := hE 3 28 _ rfl (by kernel_rfl)
                have e31 : f 31 = _ := hE 0 31 _ rfl (by kernel_rfl)
                clear hE h0
                refine yes_of (want_free rfl) ?_
                have t1 := HE1.out
                go_simp; exact hK _ _ (gb_refl _ _) rfl
              -- 5: ref.go:211 move
              apply told_is
              · intro W f hW hE h0 K hK
                have e32 : f 32 = _ := hE 0 32 _ rfl (by kernel_rfl)
                clear hE h0
                refine yes_of (want_free rfl) ?_
                go_simp; exact hK _ _ (gb_refl _ _) rfl
              -- 6: ref.go:211 move
              apply told_is
              · intro W f hW hE h0 K hK
                have e6 := h0 6 (by kernel_rfl)
                conv at e6 => rhs; whnf
                have e33 : f 33 = _ := hE 0 33 _ rfl (by kernel_rfl)
                clear hE h0
                refine yes_of (want_yes rfl rfl e33) ?_
                go_simp; exact hK _ _ (gb_refl _ _) rfl
              -- 7: ref.go:211 fieldAddr
              apply told_is
              · intro W f hW hE h0 K hK
                have e2 := h0 2 (by kernel_rfl)
                conv at e2 => rhs; whnf
                have e33 : f 33 = _ := hE 1 33 _ rfl (by kernel_rfl)
                clear hE h0
                refine yes_of (want_yes rfl rfl e33) ?_
                go_simp; exact hK _ _ (gb_refl _ _) rfl
              -- 8: ref.go:211 load
              apply told_is
              · intro W f hW hE h0 K hK
                have e35 : f 35 = _ := hE 0 35 _ rfl (by kernel_rfl)
                have e33 : f 33 = _ := hE 2 33 _ rfl (by kernel_rfl)
                clear hE h0
                refine yes_of (want_yes rfl rfl e33) ?_
                obtain ⟨y0, y1, y2, y3⟩ := HCr.out W hW
                go_simp; exact hK _ _ (gb_refl _ _) rfl
              -- 9: ref.go:211 call
              apply told_is
              · intro W f hW hE h0 K hK
                have e36 : f 36 = _ := hE 0 36 _ rfl (by kernel_rfl)
                have e33 : f 33 = _ := hE 3 33 _ rfl (by kernel_rfl)
                clear hE h0
                refine yes_of (want_yes rfl rfl e33) ?_
                go_simp; exact hK _ _ (gb_refl _ _) rfl
              -- 10: ref.go:211 binOp
              apply told_is
              · intro W f hW hE h0 K hK
                have e34 : f 34 = _ := hE 3 34 _ rfl (by kernel_rfl)
                have e37 : f 37 = _ := hE 0 37 _ rfl (by kernel_rfl)
                have e33 : f 33 = _ := hE 4 33 _ rfl (by kernel_rfl)
                clear hE h0
                refine yes_of (want_yes rfl rfl e33) ?_
                have t1 := HI1.out; have t2 := HI2.out
                go_simp; exact hK _ _ (gb_refl _ _) rfl
              -- 11: ref.go:211 move
              apply told_is
              · intro W f hW hE h0 K hK
                have e38 : f 38 = _ := hE 0 38 _ rfl (by kernel_rfl)
                have e33 : f 33 = _ := hE 5 33 _ rfl (by kernel_rfl)
                clear hE h0
                refine yes_of (want_yes rfl rfl e33) ?_
                go_simp; exact hK _ _ (gb_refl _ _) rfl
              -- 12: ref.go:211 fieldAddr
              apply told_is
              · intro W f hW hE h0 K hK
                have e2 := h0 2 (by kernel_rfl)
                conv at e2 => rhs; whnf
                have e39 : f 39 = _ := hE 0 39 _ rfl (by kernel_rfl)
                clear hE h0
                refine yes_of (want_yes rfl rfl e39) ?_
                go_simp; exact hK _ _ (gb_refl _ _) rfl
              -- 13: ref.go:211 load
              apply told_is
              · intro W f hW hE h0 K hK
                have e40 : f 40 = _ := hE 0 40 _ rfl (by kernel_rfl)
                have e39 : f 39 = _ := hE 1 39 _ rfl (by kernel_rfl)
                clear hE h0
                refine yes_of (want_yes rfl rfl e39) ?_
                obtain ⟨y0, y1, y2, y3⟩ := HCr.out W hW
                go_simp; exact hK _ _ (gb_refl _ _) rfl
              -- 14: ref.go:211 move
              apply told_is
              · intro W f hW hE h0 K hK
                have e6 := h0 6 (by kernel_rfl)
                conv at e6 => rhs; whnf
                have e39 : f 39 = _ := hE 2 39 _ rfl (by kernel_rfl)
                clear hE h0
                refine yes_of (want_yes rfl rfl e39) ?_
                go_simp; exact hK _ _ (gb_refl _ _) rfl
              -- 15: ref.go:211 indexAddr
              apply told_is
              · intro W f hW hE h0 K hK
                have e41 : f 41 = _ := hE 1 41 _ rfl (by kernel_rfl)
                have e42 : f 42 = _ := hE 0 42 _ rfl (by kernel_rfl)
                have e39 : f 39 = _ := hE 3 39 _ rfl (by kernel_rfl)
                clear hE h0
                refine yes_of (want_yes rfl rfl e39) ?_
                go_simp; exact hK _ _ (gb_refl _ _) rfl
              -- 16: ref.go:211 fieldAddr
              apply told_is
              · intro W f hW hE h0 K hK
                have e43 : f 43 = _ := hE 0 43 _ rfl (by kernel_rfl)
                have e39 : f 39 = _ := hE 4 39 _ rfl (by kernel_rfl)
                clear hE h0
                refine yes_of (want_yes rfl rfl e39) ?_
                go_simp; exact hK _ _ (gb_refl _ _) rfl
              -- 17: ref.go:211 load
              apply told_is
              · intro W f hW hE h0 K hK
                have e44 : f 44 = _ := hE 0 44 _ rfl (by kernel_rfl)
                have e39 : f 39 = _ := hE 5 39 _ rfl (by kernel_rfl)
                clear hE h0
                refine yes_of (want_yes rfl rfl e39) ?_
                obtain ⟨q0, q1, q2, q3, q4, q5⟩ := HXx.out W hW
                go_simp; exact hK _ _ (gb_refl _ _) rfl
              -- 18: ref.go:211 fieldAddr
              apply told_is
              · intro W f hW hE h0 K hK
                have e3 := h0 3 (by kernel_rfl)
                conv at e3 => rhs; whnf
                have e39 : f 39 = _ := hE 6 39 _ rfl (by kernel_rfl)
                clear hE h0
                refine yes_of (want_yes rfl rfl e39) ?_
                go_simp; exact hK _ _ (gb_refl _ _) rfl
              -- 19: ref.go:211 load
              apply told_is
              · intro W f hW hE h0 K hK
                have e46 : f 46 = _ := hE 0 46 _ rfl (by kernel_rfl)
                have e39 : f 39 = _ := hE 7 39 _ rfl (by kernel_rfl)
                clear hE h0
                refine yes_of (want_yes rfl rfl e39) ?_
                obtain ⟨y0, y1, y2, y3⟩ := HCr.out W hW
                go_simp; exact hK _ _ (gb_refl _ _) rfl
              -- 20: ref.go:211 move
              apply told_is
              · intro W f hW hE h0 K hK
                have e7 := h0 7 (by kernel_rfl)
                conv at e7 => rhs; whnf
                have e39 : f 39 = _ := hE 8 39 _ rfl (by kernel_rfl)
                clear hE h0
                refine yes_of (want_yes rfl rfl e39) ?_
                go_simp; exact hK _ _ (gb_refl _ _) rfl
              -- 21: ref.go:211 indexAddr
              apply told_is
              · intro W f hW hE h0 K hK
                have e47 : f 47 = _ := hE 1 47 _ rfl (by kernel_rfl)
                have e48 : f 48 = _ := hE 0 48 _ rfl (by kernel_rfl)
                have e39 : f 39 = _ := hE 9 39 _ rfl (by kernel_rfl)
                clear hE h0
                refine yes_of (want_yes rfl rfl e39) ?_
                go_simp; exact hK _ _ (gb_refl _ _) rfl
              -- 22: ref.go:211 fieldAddr
              apply told_is
              · intro W f hW hE h0 K hK
                have e49 : f 49 = _ := hE 0 49 _ rfl (by kernel_rfl)
                have e39 : f 39 = _ := hE 10 39 _ rfl (by kernel_rfl)
                clear hE h0
                refine yes_of (want_yes rfl rfl e39) ?_
                go_simp; exact hK _ _ (gb_refl _ _) rfl
              -- 23: ref.go:211 load
              apply told_is
              · intro W f hW hE h0 K hK
                have e50 : f 50 = _ := hE 0 50 _ rfl (by kernel_rfl)
                have e39 : f 39 = _ := hE 11 39 _ rfl (by kernel_rfl)
                clear hE h0
                refine yes_of (want_yes rfl rfl e39) ?_
                obtain ⟨q0, q1, q2, q3, q4, q5⟩ := HXy.out W hW
                go_simp; exact hK _ _ (gb_refl _ _) rfl
              -- 24: ref.go:211 call
              apply told_is
              · intro W f hW hE h0 K hK
                have e45 : f 45 = _ := hE 6 45 _ rfl (by kernel_rfl)
                have e51 : f 51 = _ := hE 0 51 _ rfl (by kernel_rfl)
                have e39 : f 39 = _ := hE 12 39 _ rfl (by kernel_rfl)
                clear hE h0
                refine yes_of (want_yes rfl rfl e39) ?_
                go_simp
                refine (refCmp_any _ _ _ _ _).mono ?_
                rintro e w1' ⟨he, g⟩; rw [HCV.out] at he; subst he
                exact ⟨_, rfl, hK _ _ g rfl⟩
              -- 25: ref.go:211 binOp
              apply told_is
              · intro W f hW hE h0 K hK
                have e52 : f 52 = _ := hE 0 52 _ rfl (by kernel_rfl)
                have e39 : f 39 = _ := hE 13 39 _ rfl (by kernel_rfl)
                clear hE h0
                refine yes_of (want_yes rfl rfl e39) ?_
                have hq := Hq.out
                go_simp; exact hK _ _ (gb_refl _ _) rfl
              -- 26: ref.go:211 pick
              apply told_is
              · intro W f hW hE h0 K hK
                have e39 : f 39 = _ := hE 14 39 _ rfl (by kernel_rfl)
                have e53 : f 53 = _ := hE 0 53 _ rfl (by kernel_rfl)
                have e33 : f 33 = _ := hE 20 33 _ rfl (by kernel_rfl)
                clear hE h0
                refine yes_of (want_yes rfl rfl e33) ?_
                go_simp; exact hK _ _ (gb_refl _ _) rfl
              -- 27: ref.go:211 pick
              apply told_is
              · intro W f hW hE h0 K hK
                have e33 : f 33 = _ := hE 21 33 _ rfl (by kernel_rfl)
                have e54 : f 54 = _ := hE 0 54 _ rfl (by kernel_rfl)
                clear hE h0
                refine yes_of (want_free rfl) ?_
                go_simp; exact hK _ _ (gb_refl _ _) rfl
              intro W f hW hA
              simp only [lexIn, Act.put, List.setIfInBounds_toArray, List.set_cons_zero, List.set_cons_succ]
              have e55 : f 55 = _ := hA 0 (some 55) _ rfl
              rw [e55]
              clear hA
              go_wp2_with fail
              go_meet
              exact ⟨true, rfl, fun _ => ⟨Hin.out, fun x2 y2 e1 e2 => by rw [Hx.out] at e1; rw [Hy.out] at e2; cases e1; cases e2; exact Hf.out⟩, (fun h => by cases h), hW⟩
          · have HI1 : Hid (decide (iq < n) = false) := decide_eq_false hin
            have HI2 : Hid (decide ((iq : Int) < (n : Int)) = false) := decide_eq_false (by omega)
            have Hkm := Lib.hid hkm
            have Hin := Lib.hid hin
            clear hkm hin
            apply wp_region_told (le := fun a b => a.grownBy b none) [isV _, isV _, isV _, isV _, isV _, isV _, isV _, isV _, isV _, isV _, isV _, isV _, isV _, isV _, isV _, isV _, isV _, isV _, isV _, isV _, isV _, isV _, isV _, isV _, isV _, isV _, isV _, isV _]
            case hn => rfl
            case hm => kernel_rfl
            case hB => kernel_rfl
            case ht => exact fun _ _ _ h k => gb_none h k
            case hw => exact gb_drew (gb_refl _ _)
            -- 0: ref.go:211 move
            apply told_is
            · intro W f hW hE h0 K hK
              have e7 := h0 7 (by kernel_rfl)
              conv at e7 => rhs; whnf
              clear hE h0
              refine yes_of (want_free rfl) ?_
              go_simp; exact hK _ _ (gb_refl _ _) rfl
            -- 1: ref.go:211 fieldAddr
            apply told_is
            · intro W f hW hE h0 K hK
              have e3 := h0 3 (by kernel_rfl)
              conv at e3 => rhs; whnf
              clear hE h0
              refine yes_of (want_free rfl) ?_
              go_simp; exact hK _ _ (gb_refl _ _) rfl
            -- 2: ref.go:211 load
            apply told_is
            · intro W f hW hE h0 K hK
              have e29 : f 29 = _ := hE 0 29 _ rfl (by kernel_rfl)
              clear hE h0
              refine yes_of (want_free rfl) ?_
              obtain ⟨y0, y1, y2, y3⟩ := HCr.out W hW
              go_simp; exact hK _ _ (gb_refl _ _) rfl
            -- 3: ref.go:211 call
            apply told_is
            · intro W f hW hE h0 K hK
              have e30 : f 30 = _ := hE 0 30 _ rfl (by kernel_rfl)
              clear hE h0
              refine yes_of (want_free rfl) ?_
              go_simp; exact hK _ _ (gb_refl _ _) rfl
            -- 4: ref.go:211 binOp
            apply told_is
            · intro W f hW hE h0 K hK
              have e28 : f 28 = _ := hE 3 28 _ rfl (by kernel_rfl)
              have e31 : f 31 = _ := hE 0 31 _ rfl (by kernel_rfl)
              clear hE h0
              refine yes_of (want_free rfl) ?_
              have t1 := HE1.out
              go_simp; exact hK _ _ (gb_refl _ _) rfl
            -- 5: ref.go:211 move
            apply told_is
            · intro W f hW hE h0 K hK
              have e32 : f 32 = _ := hE 0 32 _ rfl (by kernel_rfl)
              clear hE h0
              refine yes_of (want_free rfl) ?_
              go_simp; exact hK _ _ (gb_refl _ _) rfl
            -- 6: ref.go:211 move
            apply told_is
            · intro W f hW hE h0 K hK
              have e6 := h0 6 (by kernel_rfl)
              conv at e6 => rhs; whnf
              have e33 : f 33 = _ := hE 0 33 _ rfl (by kernel_rfl)
              clear hE h0
              refine yes_of (want_yes rfl rfl e33) ?_
              go_simp; exact hK _ _ (gb_refl _ _) rfl
            -- 7: ref.go:211 fieldAddr
            apply told_is
            · intro W f hW hE h0 K hK
              have e2 := h0 2 (by kernel_rfl)
              conv at e2 => rhs; whnf
              have e33 : f 33 = _ := hE 1 33 _ rfl (by kernel_rfl)
              clear hE h0
              refine yes_of (want_yes rfl rfl e33) ?_
              go_simp; exact hK _ _ (gb_refl _ _) rfl
            -- 8: ref.go:211 load
            apply told_is
            · intro W f hW hE h0 K hK
              have e35 : f 35 = _ := hE 0 35 _ rfl (by kernel_rfl)
              have e33 : f 33 = _ := hE 2 33 _ rfl (by kernel_rfl)
              clear hE h0
              refine yes_of (want_yes rfl rfl e33) ?_
              obtain ⟨y0, y1, y2, y3⟩ := HCr.out W hW
              go_simp; exact hK _ _ (gb_refl _ _) rfl
            -- 9: ref.go:211 call
            apply told_is
            · intro W f hW hE h0 K hK
              have e36 : f 36 = _ := hE 0 36 _ rfl (by kernel_rfl)
              have e33 : f 33 = _ := hE 3 33 _ rfl (by kernel_rfl)
              clear hE h0
              refine yes_of (want_yes rfl rfl e33) ?_
              go_simp; exact hK _ _ (gb_refl _ _) rfl
            -- 10: ref.go:211 binOp
            apply told_is
            · intro W f hW hE h0 K hK
              have e34 : f 34 = _ := hE 3 34 _ rfl (by kernel_rfl)
              have e37 : f 37 = _ := hE 0 37 _ rfl (by kernel_rfl)
              have e33 : f 33 = _ := hE 4 33 _ rfl (by kernel_rfl)
              clear hE h0
              refine yes_of (want_yes rfl rfl e33) ?_
              have t1 := HI1.out; have t2 := HI2.out
              go_simp; exact hK _ _ (gb_refl _ _) rfl
            -- 11: ref.go:211 move
            apply told_is
            · intro W f hW hE h0 K hK
              have e38 : f 38 = _ := hE 0 38 _ rfl (by kernel_rfl)
              have e33 : f 33 = _ := hE 5 33 _ rfl (by kernel_rfl)
              clear hE h0
              refine yes_of (want_yes rfl rfl e33) ?_
              go_simp; exact hK _ _ (gb_refl _ _) rfl
            -- 12: ref.go:211 fieldAddr
            apply told_is
            · intro W f hW hE h0 K hK
              have e39 : f 39 = _ := hE 0 39 _ rfl (by kernel_rfl)
              clear hE h0
              refine no_of (want_no rfl rfl e39 rfl) ?_
              exact hK _ _ (gb_refl _ _) rfl
            -- 13: ref.go:211 load
            apply told_is
            · intro W f hW hE h0 K hK
              have e39 : f 39 = _ := hE 1 39 _ rfl (by kernel_rfl)
              clear hE h0
              refine no_of (want_no rfl rfl e39 rfl) ?_
              exact hK _ _ (gb_refl _ _) rfl
            -- 14: ref.go:211 move
            apply told_is
            · intro W f hW hE h0 K hK
              have e39 : f 39 = _ := hE 2 39 _ rfl (by kernel_rfl)
              clear hE h0
              refine no_of (want_no rfl rfl e39 rfl) ?_
              exact hK _ _ (gb_refl _ _) rfl
            -- 15: ref.go:211 indexAddr
            apply told_is
            · intro W f hW hE h0 K hK
              have e39 : f 39 = _ := hE 3 39 _ rfl (by kernel_rfl)
              clear hE h0
              refine no_of (want_no rfl rfl e39 rfl) ?_
              exact hK _ _ (gb_refl _ _) rfl
            -- 16: ref.go:211 fieldAddr
            apply told_is
            · intro W f hW hE h0 K hK
              have e39 : f 39 = _ := hE 4 39 _ rfl (by kernel_rfl)
              clear hE h0
              refine no_of (want_no rfl rfl e39 rfl) ?_
              exact hK _ _ (gb_refl _ _) rfl
            -- 17: ref.go:211 load
            apply told_is
            · intro W f hW hE h0 K hK
              have e39 : f 39 = _ := hE 5 39 _ rfl (by kernel_rfl)
              clear hE h0
              refine no_of (want_no rfl rfl e39 rfl) ?_
              exact hK _ _ (gb_refl _ _) rfl
            -- 18: ref.go:211 fieldAddr
            apply told_is
            · intro W f hW hE h0 K hK
              have e39 : f 39 = _ := hE 6 39 _ rfl (by kernel_rfl)
              clear hE h0
              refine no_of (want_no rfl rfl e39 rfl) ?_
              exact hK _ _ (gb_refl _ _) rfl
            -- 19: ref.go:211 load
            apply told_is
            · intro W f hW hE h0 K hK
              have e39 : f 39 = _ := hE 7 39 _ rfl (by kernel_rfl)
              clear hE h0
              refine no_of (want_no rfl rfl e39 rfl) ?_
              exact hK _ _ (gb_refl _ _) rfl
            -- 20: ref.go:211 move
            apply told_is
            · intro W f hW hE h0 K hK
              have e39 : f 39 = _ := hE 8 39 _ rfl (by kernel_rfl)
              clear hE h0
              refine no_of (want_no rfl rfl e39 rfl) ?_
              exact hK _ _ (gb_refl _ _) rfl
            -- 21: ref.go:211 indexAddr
            apply told_is
            · intro W f hW hE h0 K hK
              have e39 : f 39 = _ := hE 9 39 _ rfl (by kernel_rfl)
              clear hE h0
              refine no_of (want_no rfl rfl e39 rfl) ?_
              exact hK _ _ (gb_refl _ _) rfl
            -- 22: ref.go:211 fieldAddr
            apply told_is
            · intro W f hW hE h0 K hK
              have e39 : f 39 = _ := hE 10 39 _ rfl (by kernel_rfl)
              clear hE h0
              refine no_of (want_no rfl rfl e39 rfl) ?_
              exact hK _ _ (gb_refl _ _) rfl
            -- 23: ref.go:211 load
            apply told_is
            · intro W f hW hE h0 K hK
              have e39 : f 39 = _ := hE 11 39 _ rfl (by kernel_rfl)
              clear hE h0
              refine no_of (want_no rfl rfl e39 rfl) ?_
              exact hK _ _ (gb_refl _ _) rfl
            -- 24: ref.go:211 call
            apply told_is
            · intro W f hW hE h0 K hK
              have e39 : f 39 = _ := hE 12 39 _ rfl (by kernel_rfl)
              clear hE h0
              refine no_of (want_no rfl rfl e39 rfl) ?_
              exact hK _ _ (gb_refl _ _) rfl
            -- 25: ref.go:211 binOp
            apply told_is
            · intro W f hW hE h0 K hK
              have e39 : f 39 = _ := hE 13 39 _ rfl (by kernel_rfl)
              clear hE h0
              refine no_of (want_no rfl rfl e39 rfl) ?_
              exact hK _ _ (gb_refl _ _) rfl
            -- 26: ref.go:211 pick
            apply told_is
            · intro W f hW hE h0 K hK
              have e39 : f 39 = _ := hE 14 39 _ rfl (by kernel_rfl)
              have e53 : f 53 = _ := hE 0 53 _ rfl (by kernel_rfl)
              have e33 : f 33 = _ := hE 20 33 _ rfl (by kernel_rfl)
              clear hE h0
              refine yes_of (want_yes rfl rfl e33) ?_
              go_simp; exact hK _ _ (gb_refl _ _) rfl
            -- 27: ref.go:211 pick
            apply told_is
            · intro W f hW hE h0 K hK
              have e33 : f 33 = _ := hE 21 33 _ rfl (by kernel_rfl)
              have e54 : f 54 = _ := hE 0 54 _ rfl (by kernel_rfl)
              clear hE h0
              refine yes_of (want_free rfl) ?_
              go_simp; exact hK _ _ (gb_refl _ _) rfl
            intro W f hW hA
            simp only [lexIn, Act.put, List.setIfInBounds_toArray, List.set_cons_zero, List.set_cons_succ]
            have e55 : f 55 = _ := hA 0 (some 55) _ rfl
            rw [e55]
            clear hA
            go_wp2_with fail
            go_meet
            exact ⟨false, rfl, (fun h => by cases h), fun _ => ⟨Hkm.out, fun x2 y2 e1 e2 => absurd (by have := (List.getElem?_eq_some_iff.1 e1).1; rw [HLs.out.1] at this; exact this) Hin.out⟩, hW⟩
        · have HE1 : Hid (((kq : Int) == (m : Int)) = true) := by show _ = _; rw [beq_iff_eq]; omega
          have Hkm := Lib.hid hkm
          have Hin : Hid (iq < n) := by show _ < _; omega
          clear hkm
          apply wp_region_told (le := fun a b => a.grownBy b none) [isV _, isV _, isV _, isV _, isV _, isV _, isV _, isV _, isV _, isV _, isV _, isV _, isV _, isV _, isV _, isV _, isV _, isV _, isV _, isV _, isV _, isV _, isV _, isV _, isV _, isV _, isV _, isV _]
          case hn => rfl
          case hm => kernel_rfl
          case hB => kernel_rfl
          case ht => exact fun _ _ _ h k => gb_none h k
          case hw => exact gb_drew (gb_refl _ _)
          -- 0: ref.go:211 move
          apply told_is
          · intro W f hW hE h0 K hK
            have e7 := h0 7 (by kernel_rfl)
            conv at e7 => rhs; whnf
            clear hE h0
            refine yes_of (want_free rfl) ?_
            go_simp; exact hK _ _ (gb_refl _ _) rfl
          -- 1: ref.go:211 fieldAddr
          apply told_is
          · intro W f hW hE h0 K hK
            have e3 := h0 3 (by kernel_rfl)
            conv at e3 => rhs; whnf
            clear hE h0
            refine yes_of (want_free rfl) ?_
            go_simp; exact hK _ _ (gb_refl _ _) rfl
          -- 2: ref.go:211 load
          apply told_is
          · intro W f hW hE h0 K hK
            have e29 : f 29 = _ := hE 0 29 _ rfl (by kernel_rfl)
            clear hE h0
            refine yes_of (want_free rfl) ?_
            obtain ⟨y0, y1, y2, y3⟩ := HCr.out W hW
            go_simp; exact hK _ _ (gb_refl _ _) rfl
          -- 3: ref.go:211 call
          apply told_is
          · intro W f hW hE h0 K hK
            have e30 : f 30 = _ := hE 0 30 _ rfl (by kernel_rfl)
            clear hE h0
            refine yes_of (want_free rfl) ?_
            go_simp; exact hK _ _ (gb_refl _ _) rfl
          -- 4: ref.go:211 binOp
          apply told_is
          · intro W f hW hE h0 K hK
            have e28 : f 28 = _ := hE 3 28 _ rfl (by kernel_rfl)
            have e31 : f 31 = _ := hE 0 31 _ rfl (by kernel_rfl)
            clear hE h0
            refine yes_of (want_free rfl) ?_
            have t1 := HE1.out
            go_simp; exact hK _ _ (gb_refl _ _) rfl
          -- 5: ref.go:211 move
          apply told_is
          · intro W f hW hE h0 K hK
            have e32 : f 32 = _ := hE 0 32 _ rfl (by kernel_rfl)
            clear hE h0
            refine yes_of (want_free rfl) ?_
            go_simp; exact hK _ _ (gb_refl _ _) rfl
          -- 6: ref.go:211 move
          apply told_is
          · intro W f hW hE h0 K hK
            have e33 : f 33 = _ := hE 0 33 _ rfl (by kernel_rfl)
            clear hE h0
            refine no_of (want_no rfl rfl e33 rfl) ?_
            exact hK _ _ (gb_refl _ _) rfl
          -- 7: ref.go:211 fieldAddr
          apply told_is
          · intro W f hW hE h0 K hK
            have e33 : f 33 = _ := hE 1 33 _ rfl (by kernel_rfl)
            clear hE h0
            refine no_of (want_no rfl rfl e33 rfl) ?_
            exact hK _ _ (gb_refl _ _) rfl
          -- 8: ref.go:211 load
          apply told_is
          · intro W f hW hE h0 K hK
            have e33 : f 33 = _ := hE 2 33 _ rfl (by kernel_rfl)
            clear hE h0
            refine no_of (want_no rfl rfl e33 rfl) ?_
            exact hK _ _ (gb_refl _ _) rfl
          -- 9: ref.go:211 call
          apply told_is
          · intro W f hW hE h0 K hK
            have e33 : f 33 = _ := hE 3 33 _ rfl (by kernel_rfl)
            clear hE h0
            refine no_of (want_no rfl rfl e33 rfl) ?_
            exact hK _ _ (gb_refl _ _) rfl
          -- 10: ref.go:211 binOp
          apply told_is
          · intro W f hW hE h0 K hK
            have e33 : f 33 = _ := hE 4 33 _ rfl (by kernel_rfl)
            clear hE h0
            refine no_of (want_no rfl rfl e33 rfl) ?_
            exact hK _ _ (gb_refl _ _) rfl
          -- 11: ref.go:211 move
          apply told_is
          · intro W f hW hE h0 K hK
            have e33 : f 33 = _ := hE 5 33 _ rfl (by kernel_rfl)
            clear hE h0
            refine no_of (want_no rfl rfl e33 rfl) ?_
            exact hK _ _ (gb_refl _ _) rfl
          -- 12: ref.go:211 fieldAddr
          apply told_is
          · intro W f hW hE h0 K hK
            have e39 : f 39 = _ := hE 0 39 _ rfl (by kernel_rfl)
            clear hE h0
            refine no_of (want_no rfl rfl e39 rfl) ?_
            exact hK _ _ (gb_refl _ _) rfl
          -- 13: ref.go:211 load
          apply told_is
          · intro W f hW hE h0 K hK
            have e39 : f 39 = _ := hE 1 39 _ rfl (by kernel_rfl)
            clear hE h0
            refine no_of (want_no rfl rfl e39 rfl) ?_
            exact hK _ _ (gb_refl _ _) rfl
          -- 14: ref.go:211 move
          apply told_is
          · intro W f hW hE h0 K hK
            have e39 : f 39 = _ := hE 2 39 _ rfl (by kernel_rfl)
            clear hE h0
            refine no_of (want_no rfl rfl e39 rfl) ?_
            exact hK _ _ (gb_refl _ _) rfl
          -- 15: ref.go:211 indexAddr
          apply told_is
          · intro W f hW hE h0 K hK
            have e39 : f 39 = _ := hE 3 39 _ rfl (by kernel_rfl)
            clear hE h0
            refine no_of (want_no rfl rfl e39 rfl) ?_
            exact hK _ _ (gb_refl _ _) rfl
          -- 16: ref.go:211 fieldAddr
          apply told_is
          · intro W f hW hE h0 K hK
            have e39 : f 39 = _ := hE 4 39 _ rfl (by kernel_rfl)
            clear hE h0
            refine no_of (want_no rfl rfl e39 rfl) ?_
            exact hK _ _ (gb_refl _ _) rfl
          -- 17: ref.go:211 load
          apply told_is
          · intro W f hW hE h0 K hK
            have e39 : f 39 = _ := hE 5 39 _ rfl (by kernel_rfl)
            clear hE h0
            refine no_of (want_no rfl rfl e39 rfl) ?_
            exact hK _ _ (gb_refl _ _) rfl
          -- 18: ref.go:211 fieldAddr
          apply told_is
          · intro W f hW hE h0 K hK
            have e39 : f 39 = _ := hE 6 39 _ rfl (by kernel_rfl)
            clear hE h0
            refine no_of (want_no rfl rfl e39 rfl) ?_
            exact hK _ _ (gb_refl _ _) rfl
          -- 19: ref.go:211 load
          apply told_is
          · intro W f hW hE h0 K hK
            have e39 : f 39 = _ := hE 7 39 _ rfl (by kernel_rfl)
            clear hE h0
            refine no_of (want_no rfl rfl e39 rfl) ?_
            exact hK _ _ (gb_refl _ _) rfl
          -- 20: ref.go:211 move
          apply told_is
          · intro W f hW hE h0 K hK
            have e39 : f 39 = _ := hE 8 39 _ rfl (by kernel_rfl)
            clear hE h0
            refine no_of (want_no rfl rfl e39 rfl) ?_
            exact hK _ _ (gb_refl _ _) rfl
          -- 21: ref.go:211 indexAddr
          apply told_is
          · intro W f hW hE h0 K hK
            have e39 : f 39 = _ := hE 9 39 _ rfl (by kernel_rfl)
            clear hE h0
            refine no_of (want_no rfl rfl e39 rfl) ?_
            exact hK _ _ (gb_refl _ _) rfl
          -- 22: ref.go:211 fieldAddr
          apply told_is
          · intro W f hW hE h0 K hK
            have e39 : f 39 = _ := hE 10 39 _ rfl (by kernel_rfl)
            clear hE h0
            refine no_of (want_no rfl rfl e39 rfl) ?_
            exact hK _ _ (gb_refl _ _) rfl
          -- 23: ref.go:211 load
          apply told_is
          · intro W f hW hE h0 K hK
            have e39 : f 39 = _ := hE 11 39 _ rfl (by kernel_rfl)
            clear hE h0
            refine no_of (want_no rfl rfl e39 rfl) ?_
            exact hK _ _ (gb_refl _ _) rfl
          -- 24: ref.go:211 call
          apply told_is
          · intro W f hW hE h0 K hK
            have e39 : f 39 = _ := hE 12 39 _ rfl (by kernel_rfl)
            clear hE h0
            refine no_of (want_no rfl rfl e39 rfl) ?_
            exact hK _ _ (gb_refl _ _) rfl
          -- 25: ref.go:211 binOp
          apply told_is
          · intro W f hW hE h0 K hK
            have e39 : f 39 = _ := hE 13 39 _ rfl (by kernel_rfl)
            clear hE h0
            refine no_of (want_no rfl rfl e39 rfl) ?_
            exact hK _ _ (gb_refl _ _) rfl
          -- 26: ref.go:211 pick
          apply told_is
          · intro W f hW hE h0 K hK
            have e33 : f 33 = _ := hE 20 33 _ rfl (by kernel_rfl)
            clear hE h0
            refine no_of (want_no rfl rfl e33 rfl) ?_
            exact hK _ _ (gb_refl _ _) rfl
          -- 27: ref.go:211 pick
          apply told_is
          · intro W f hW hE h0 K hK
            have e33 : f 33 = _ := hE 21 33 _ rfl (by kernel_rfl)
            have e54 : f 54 = _ := hE 0 54 _ rfl (by kernel_rfl)
            clear hE h0
            refine yes_of (want_free rfl) ?_
            go_simp; exact hK _ _ (gb_refl _ _) rfl
          intro W f hW hA
          simp only [lexIn, Act.put, List.setIfInBounds_toArray, List.set_cons_zero, List.set_cons_succ]
          have e55 : f 55 = _ := hA 0 (some 55) _ rfl
          rw [e55]
          clear hA
          go_wp2_with fail
          go_meet
          exact ⟨true, rfl, fun _ => ⟨Hin.out, fun x2 y2 e1 e2 => absurd (by have := (List.getElem?_eq_some_iff.1 e2).1; rw [HLt.out.1] at this; exact this) Hkm.out⟩, (fun h => by cases h), hW⟩
      case rest =>
        obtain ⟨tb, rfl, hT, hF, hg2⟩ := hcut
        have Hgc : Hid (w1.grownBy wc none) := gb_none Hg.out hg2
        have Hrowc : Hid (Row wc ob 25 #[.slice U Lu cu, .slice A2 N c2]) := Hrow.out.kept hg2 (by simp)
        have Hownc : Hid (wc.ownsRow (ob + 1) 46 6 (.slice A2 N c2) N (fv L)) := Hown.out.kept hg2 (by cases hv : Value.ownBlock (.slice A2 N c2) <;> simp)
        clear hg2 hgo
        cases tb with
        | true =>
          obtain ⟨hlt, hno⟩ := hT rfl
          obtain ⟨x, hx⟩ : ∃ x, s.facts[iq]? = some x := ⟨_, List.getElem?_eq_getElem (by rw [HLs.out.1]; exact hlt)⟩
          obtain ⟨g, o, rfl, hgl, hcc⟩ := HLs.out.2 (by omega)
          have HX1 : Hid (∀ W, w1.grownBy W none → At6 W g (o + iq * 6) x) := fun W hW => (hcc iq x hx).keep hgl hW
          have b0 : (iq : Int) < (n : Int) := by omega
          have Hx := Lib.hid hx
          have Hno := Lib.hid hno
          obtain ⟨y0, y1, y2, y3⟩ := HC1.out wc Hgc.out
          obtain ⟨q0, q1, q2, q3, q4, q5⟩ := HX1.out wc Hgc.out
          clear hcc hgl hx hT hF hno
          go_upto_region 6 with fail
          have Hgd : Hid (w1.grownBy (wc.alloc (.cells #[.int .i64 x.d, .int .i64 x.n] 44)) none) := gb_alloc Hgc.out _
          have HBX : Hid (∀ W, (wc.alloc (.cells #[.int .i64 x.d, .int .i64 x.n] 44)).grownBy W none → W.cell? ⟨wc.heap.size, 0, none⟩ = some (.int .i64 x.d) ∧ W.cell? ⟨wc.heap.size, 1, none⟩ = some (.int .i64 x.n)) := fun W hW => ⟨((Row.new wc 44 #[.int .i64 x.d, .int .i64 x.n]).kept hW (by simp)).at_ (i := 0) rfl, ((Row.new wc 44 #[.int .i64 x.d, .int .i64 x.n]).kept hW (by simp)).at_ (i := 1) rfl⟩
          have Hrowd : Hid (Row (wc.alloc (.cells #[.int .i64 x.d, .int .i64 x.n] 44)) ob 25 #[.slice U Lu cu, .slice A2 N c2]) := Hrowc.out.alloc _
          have Hownd : Hid ((wc.alloc (.cells #[.int .i64 x.d, .int .i64 x.n] 44)).ownsRow (ob + 1) 46 6 (.slice A2 N c2) N (fv L)) := Hownc.out.alloc _
          have HH : Hid (∀ W, (wc.alloc (.cells #[.int .i64 x.d, .int .i64 x.n] 44)).grownBy W none → Calls Tryz.prog 40 #[.slice A' q c', .agg #[.int .i64 x.d, .int .i64 x.n]] W fun e w' => e = .returned (.bool (hasB t.seen x.d x.n)) ∧ W.grownBy w' none) := fun W hW => refHas_any A' q c' t.seen x.d x.n W (Ht.out.1.keep (gb_none HG1.out (gb_none Hgd.out hW))) (by omega)
          obtain ⟨sb, hsb⟩ : ∃ sb, stayA s t x = sb := ⟨_, rfl⟩
          obtain ⟨hb, hhb⟩ : ∃ hb, hasB t.seen x.d x.n = hb := ⟨_, rfl⟩
          have Hsb := Lib.hid hsb
          have Hhb := Lib.hid hhb
          clear hsb hhb
          go_cut [71] (fun v wx => v = .bool sb ∧ (wc.alloc (.cells #[.int .i64 x.d, .int .i64 x.n] 44)).grownBy wx none)
          case first =>
            cases hb with
            | false =>
              obtain rfl : sb = true := by rw [← Hsb.out]; unfold stayA; rw [Hhb.out]; rfl
              obtain ⟨v0, v1⟩ := HBX.out _ (gb_refl _ _)
              obtain ⟨j0, j1, j2, j3⟩ := HC1.out _ Hgd.out
              go_wp2_with (go_at_call 40; refine (HH.out _ (gb_refl _ _)).mono ?_; rintro e w3 ⟨he, g3⟩; rw [Hhb.out] at he; subst he)
              go_meet
              exact ⟨rfl, g3⟩
            | true =>
              obtain ⟨ab, hab⟩ : ∃ ab, atB t.facts x.d x.n = ab := ⟨_, rfl⟩
              have Hab := Lib.hid hab
              obtain rfl : sb = ab := by rw [← Hsb.out]; unfold stayA; rw [Hhb.out, hab]; rfl
              clear hab
              have HAt : Hid (∀ W, (wc.alloc (.cells #[.int .i64 x.d, .int .i64 x.n] 44)).grownBy W none → Calls Tryz.prog 62 #[.agg #[.slice A' q c', .slice B' m d'], .agg #[.int .i64 x.d, .int .i64 x.n]] W fun e w' => e = .returned (.bool (atB t.facts x.d x.n)) ∧ W.grownBy w' none) := fun W hW => refAt_any A' B' q c' m d' t x.d x.n W (Ht.out.keep (gb_none HG1.out (gb_none Hgd.out hW))) (by omega)
              obtain ⟨v0, v1⟩ := HBX.out _ (gb_refl _ _)
              obtain ⟨j0, j1, j2, j3⟩ := HC1.out _ Hgd.out
              go_wp2_with (go_at_call 40; refine (HH.out _ (gb_refl _ _)).mono ?_; rintro e w3 ⟨he, g3⟩; rw [Hhb.out] at he; subst he; obtain ⟨k0, k1, k2, k3⟩ := HC1.out w3 (gb_none Hgd.out g3); obtain ⟨v0, v1⟩ := HBX.out w3 g3; have HAt3 := Lib.hid (HAt.out w3 g3))
              go_wp2_with (go_at_call 62; refine HAt3.out.mono ?_; rintro e w4 ⟨he, g4⟩; rw [Hab.out] at he; subst he)
              go_meet
              exact ⟨rfl, gb_none g3 g4⟩
          case rest =>
            obtain ⟨rfl, hg3⟩ := hcut
            have HG3 : Hid (w1.grownBy wc none) := gb_none Hgd.out hg3
            have Hrow3 : Hid (Row wc ob 25 #[.slice U Lu cu, .slice A2 N c2]) := Hrowd.out.kept hg3 (by simp)
            have Hown3 : Hid (wc.ownsRow (ob + 1) 46 6 (.slice A2 N c2) N (fv L)) := Hownd.out.kept hg3 (by cases hv : Value.ownBlock (.slice A2 N c2) <;> simp)
            clear hg3 q0 q1 q2 q3 q4 q5 y0 y1 y2 y3
            cases sb with
            | true =>
              go_upto_region 7 with fail
              have hlt3 : ob < wc.heap.size := Hrow3.out.lt
              have Hb1 : Hid (N + 1 ≤ maxLen ∧ (N + 1) * 64 ≤ 140737488355328) := by show _ ∧ _; simp only [maxLen]; omega
              have HSf : Hid (∀ w' : World, w1.grownBy w' none → w'.cell? ⟨h0, 1, none⟩ = some (.slice (some ⟨g, o, none⟩) n d) ∧ w'.cell? ⟨g, o + iq * 6, none⟩ = some (.int .i64 x.d) ∧ w'.cell? ⟨g, o + iq * 6 + 1, none⟩ = some (.int .i64 x.n) ∧ w'.cell? ⟨g, o + iq * 6 + 2, none⟩ = some (.string x.key) ∧ w'.cell? ⟨g, o + iq * 6 + 3, none⟩ = some (.int .i64 x.kind) ∧ w'.cell? ⟨g, o + iq * 6 + 4, none⟩ = some (.string x.item) ∧ w'.cell? ⟨g, o + iq * 6 + 5, none⟩ = some (.int .i64 x.v)) := fun W hW => by
                have k1 := HC1.out W hW
                obtain ⟨q0, q1, q2, q3, q4, q5⟩ := HX1.out W hW
                exact ⟨k1.2.1, q0, q1, q2, q3, q4, q5⟩
              have hkeep1 : ∀ i, Value.ownBlock (.slice A2 N c2) = some i → none = some i ∨ w1.heap.size ≤ i := fun i e => .inr (by have h := (Hown3.out.lt i e).1; have := Hob.out; omega)
              have HK1 := Lib.hid hkeep1
              have HK2 : Hid (some ob ≠ Value.ownBlock (.slice A2 N c2)) := fun e => by have h := (Hown3.out.lt ob e.symm).1; omega
              clear hkeep1
              apply wp_region_told_list (le := fun a b => a.grownBy b none) 8 [isV _, isV _, isV _, isV _, isV _, isV _, isV _, factV x]
              case hC => kernel_rfl
              case hlen => rfl
              case hn => rfl
              case hm => kernel_rfl
              case hB => kernel_rfl
              case ht => exact fun _ _ _ h k => gb_none h k
              case hw => exact gb_drew (gb_refl _ _)
              -- 0: ref.go:213 fieldAddr
              apply head_is
              · intro W f hW hE h0 K hK
                have e5 := h0 5 (by kernel_rfl)
                conv at e5 => rhs; whnf
                clear hE h0
                refine yes_of (want_free rfl) ?_
                go_simp; exact hK _ _ (gb_refl _ _) rfl
              -- 1: ref.go:213 load
              apply head_is
              · intro W f hW hE h0 K hK
                have e72 : f 72 = _ := hE 0 72 _ rfl (by kernel_rfl)
                clear hE h0
                refine yes_of (want_free rfl) ?_
                have c0 := (Hrow3.out.kept hW (by simp)).at_ (i := 1) rfl
                go_simp; exact hK _ _ (gb_refl _ _) rfl
              -- 2: ref.go:213 fieldAddr
              apply head_is
              · intro W f hW hE h0 K hK
                have e2 := h0 2 (by kernel_rfl)
                conv at e2 => rhs; whnf
                clear hE h0
                refine yes_of (want_free rfl) ?_
                go_simp; exact hK _ _ (gb_refl _ _) rfl
              -- 3: ref.go:213 load
              apply head_is
              · intro W f hW hE h0 K hK
                have e74 : f 74 = _ := hE 0 74 _ rfl (by kernel_rfl)
                clear hE h0
                refine yes_of (want_free rfl) ?_
                have c0 := HSf.out W (gb_none HG3.out hW)
                obtain ⟨k1, _, _, _, _, _, _⟩ := c0
                go_simp; exact hK _ _ (gb_refl _ _) rfl
              -- 4: ref.go:213 move
              apply head_is
              · intro W f hW hE h0 K hK
                have e6 := h0 6 (by kernel_rfl)
                conv at e6 => rhs; whnf
                clear hE h0
                refine yes_of (want_free rfl) ?_
                go_simp; exact hK _ _ (gb_refl _ _) rfl
              -- 5: ref.go:213 indexAddr
              apply head_is
              · intro W f hW hE h0 K hK
                have e75 : f 75 = _ := hE 1 75 _ rfl (by kernel_rfl)
                have e76 : f 76 = _ := hE 0 76 _ rfl (by kernel_rfl)
                clear hE h0
                refine yes_of (want_free rfl) ?_
                go_simp; exact hK _ _ (gb_refl _ _) rfl
              -- 6: ref.go:213 load
              apply head_is
              · intro W f hW hE h0 K hK
                have e77 : f 77 = _ := hE 0 77 _ rfl (by kernel_rfl)
                clear hE h0
                refine yes_of (want_free rfl) ?_
                have c0 := HSf.out W (gb_none HG3.out hW)
                obtain ⟨_, q0, q1, q2, q3, q4, q5⟩ := c0
                go_simp; exact hK _ _ (gb_refl _ _) rfl
              -- 7: ref.go:213 buildSlice
              apply head_at factV_stays
              · intro W f hW hE h0 K hK
                have e78 : f 78 = _ := hE 0 78 _ rfl (by kernel_rfl)
                clear hE h0
                refine yes_of (want_free rfl) ?_
                go_simp; exact hK _ _ (gb_alloc (gb_refl _ _) _) ⟨_, rfl, Row.new _ _ _⟩
              intro W f hW hA
              simp only [List.take_succ_cons, List.take_zero, List.drop_succ_cons, List.drop_zero, lexIn, Act.put, List.setIfInBounds_toArray, List.set_cons_zero, List.set_cons_succ]
              have e73 : f 73 = _ := hA 6 (some 73) _ rfl
              rw [e73]
              have e79 := hA 0 (some 79) _ rfl
              clear hA
              obtain ⟨gn, e79, hrn⟩ := e79
              rw [e79]
              have hWg := hW
              have Hrw := Lib.hid (Hrow3.out.kept hW (by simp))
              have Hgw : Hid (w1.grownBy W none) := gb_none HG3.out hW
              have Hownw : Hid (W.ownsRow (ob + 1) 46 6 (.slice A2 N c2) N (fv L)) := Hown3.out.kept hW (by cases hv : Value.ownBlock (.slice A2 N c2) <;> simp)
              have Hnews := Lib.hid hrn
              have hobw := Hrw.out.lt
              clear hW hWg hrn e79
              go_wp2_with (at_builtin; go_must (refine wpList_append_own _ rfl (.tmp 73) (.tmp 79) 23 rfl (ob + 1) 46 i0 (.agg #[.int .i64 0, .int .i64 0, .string ⟨#[]⟩, .int .i64 0, .string ⟨#[]⟩, .int .i64 0]) 6 64 Tryz.underlying23 Hi0.out Hz0.out Hz1.out Hz2.out rfl (by decide) _ N _ rfl Hownw.out ⟨gn, 0, none⟩ 1 1 (fv1 x) rfl rfl (World.news_of_block (cs := #[.int .i64 x.d, .int .i64 x.n, .string x.key, .int .i64 x.kind, .string x.item, .int .i64 x.v]) (t := 46) (fr := (0, 0)) Hnews.out) (fv1_one x) Hb1.out.1 Hb1.out.2 (by omega) ?_); intro v5 w5 own5 hgrow _; obtain ⟨g2, cap2, hv5⟩ := own_block6 own5; subst hv5; have r5 := Hrw.out.kept hgrow HK2.out; have s0 := r5.at_ (i := 1) rfl; have s1 := r5.free 1; have Hr5 := Lib.hid r5; have Hgrow := Lib.hid hgrow; have Own5 := Lib.hid own5; clear r5 hgrow own5)
              have Hrow5 : Hid (Row (w5.setCell ⟨ob, 1, none⟩ (.slice (some ⟨g2, 0, none⟩) (N + 1) cap2)) ob 25 #[.slice U Lu cu, .slice (some ⟨g2, 0, none⟩) (N + 1) cap2]) := by
                show Row _ _ _ _
                exact Hr5.out.set_ 1 (.slice (some ⟨g2, 0, none⟩) (N + 1) cap2)
              have Hown5 : Hid ((w5.setCell ⟨ob, 1, none⟩ (.slice (some ⟨g2, 0, none⟩) (N + 1) cap2)).ownsRow (ob + 1) 46 6 (.slice (some ⟨g2, 0, none⟩) (N + 1) cap2) (N + 1) (fv L ++ fv1 x)) := Own5.out.kept (gb_set1 _ ob 1 _) (.inr (fun e => by have h := (Own5.out.lt g2 rfl).1; have e2 : some g2 = some ob := e; cases e2; omega))
              have Hg5 : Hid (w1.grownBy (w5.setCell ⟨ob, 1, none⟩ (.slice (some ⟨g2, 0, none⟩) (N + 1) cap2)) none) := gb_new (gb_step Hgw.out Hgrow.out HK1.out) (gb_set1 _ ob 1 _) (Nat.le_of_eq Hob.out)
              have HJ2 : Hid (JI s t (iq + 1) kq (L ++ [x])) := HJ.out.a_ HSS.out.1 HSS.out.2 Hx.out (fun y hy => Hno.out x y Hx.out hy) Hsb.out
              clear hobw hlt3 HSf
              go_roundw
              case rel =>
                refine ⟨iq + 1, kq, L ++ [x], _, by omega, by omega, by go_num, by rfl, HJ2.out, by rw [List.length_append, HN.out, List.length_singleton]; omega, Hrow5.out, ?_, Hg5.out⟩
                rw [fv_append, List.length_append, HN.out, show fv [x] = fv1 x from List.append_nil _]
                exact Hown5.out
              case measure => simp [intOf]; omega
            | false =>
              have HJ2 : Hid (JI s t (iq + 1) kq L) := HJ.out.skipA Hx.out Hsb.out
              go_wp2_with fail
              go_roundw
              case rel => exact ⟨iq + 1, kq, L, _, by omega, by omega, by go_num, by rfl, HJ2.out, by rw [HN.out]; omega, Hrow3.out, by rw [HN.out]; exact Hown3.out, HG3.out⟩
              case measure => simp [intOf]; omega
        | false =>
          obtain ⟨hlt, hno⟩ := hF rfl
          obtain ⟨y, hx⟩ : ∃ y, t.facts[kq]? = some y := ⟨_, List.getElem?_eq_getElem (by rw [HLt.out.1]; exact hlt)⟩
          obtain ⟨g', o', rfl, hgl, hcc⟩ := HLt.out.2 (by omega)
          have HX1 : Hid (∀ W, w1.grownBy W none → At6 W g' (o' + kq * 6) y) := fun W hW => (hcc kq y hx).keep hgl hW
          have b0 : (kq : Int) < (m : Int) := by omega
          have Hx := Lib.hid hx
          have Hno := Lib.hid hno
          obtain ⟨y0, y1, y2, y3⟩ := HC1.out wc Hgc.out
          obtain ⟨q0, q1, q2, q3, q4, q5⟩ := HX1.out wc Hgc.out
          clear hcc hgl hx hT hF hno
          go_upto_region 10 with fail
          have Hgd : Hid (w1.grownBy (wc.alloc (.cells #[.int .i64 y.d, .int .i64 y.n] 44)) none) := gb_alloc Hgc.out _
          have HBX : Hid (∀ W, (wc.alloc (.cells #[.int .i64 y.d, .int .i64 y.n] 44)).grownBy W none → W.cell? ⟨wc.heap.size, 0, none⟩ = some (.int .i64 y.d) ∧ W.cell? ⟨wc.heap.size, 1, none⟩ = some (.int .i64 y.n)) := fun W hW => ⟨((Row.new wc 44 #[.int .i64 y.d, .int .i64 y.n]).kept hW (by simp)).at_ (i := 0) rfl, ((Row.new wc 44 #[.int .i64 y.d, .int .i64 y.n]).kept hW (by simp)).at_ (i := 1) rfl⟩
          have Hrowd : Hid (Row (wc.alloc (.cells #[.int .i64 y.d, .int .i64 y.n] 44)) ob 25 #[.slice U Lu cu, .slice A2 N c2]) := Hrowc.out.alloc _
          have Hownd : Hid ((wc.alloc (.cells #[.int .i64 y.d, .int .i64 y.n] 44)).ownsRow (ob + 1) 46 6 (.slice A2 N c2) N (fv L)) := Hownc.out.alloc _
          have HH : Hid (∀ W, (wc.alloc (.cells #[.int .i64 y.d, .int .i64 y.n] 44)).grownBy W none → Calls Tryz.prog 40 #[.slice A p c, .agg #[.int .i64 y.d, .int .i64 y.n]] W fun e w' => e = .returned (.bool (hasB s.seen y.d y.n)) ∧ W.grownBy w' none) := fun W hW => refHas_any A p c s.seen y.d y.n W (Hs.out.1.keep (gb_none HG1.out (gb_none Hgd.out hW))) (by omega)
          obtain ⟨sb, hsb⟩ : ∃ sb, stayB s y = sb := ⟨_, rfl⟩
          obtain ⟨hb, hhb⟩ : ∃ hb, hasB s.seen y.d y.n = hb := ⟨_, rfl⟩
          have Hsb := Lib.hid hsb
          have Hhb := Lib.hid hhb
          clear hsb hhb
          go_cut [94] (fun v wx => v = .bool sb ∧ (wc.alloc (.cells #[.int .i64 y.d, .int .i64 y.n] 44)).grownBy wx none)
          case first =>
            obtain rfl : sb = !hb := by rw [← Hsb.out]; unfold stayB; rw [Hhb.out]
            obtain ⟨v0, v1⟩ := HBX.out _ (gb_refl _ _)
            obtain ⟨j0, j1, j2, j3⟩ := HC1.out _ Hgd.out
            cases hb <;>
            (go_wp2_with (go_at_call 40; refine (HH.out _ (gb_refl _ _)).mono ?_; rintro e w3 ⟨he, g3⟩; rw [Hhb.out] at he; subst he)
             go_meet
             exact ⟨rfl, g3⟩)
          case rest =>
            obtain ⟨rfl, hg3⟩ := hcut
            have HG3 : Hid (w1.grownBy wc none) := gb_none Hgd.out hg3
            have Hrow3 : Hid (Row wc ob 25 #[.slice U Lu cu, .slice A2 N c2]) := Hrowd.out.kept hg3 (by simp)
            have Hown3 : Hid (wc.ownsRow (ob + 1) 46 6 (.slice A2 N c2) N (fv L)) := Hownd.out.kept hg3 (by cases hv : Value.ownBlock (.slice A2 N c2) <;> simp)
            clear hg3 q0 q1 q2 q3 q4 q5 y0 y1 y2 y3
            cases sb with
            | true =>
              go_upto_region 11 with fail
              have hlt3 : ob < wc.heap.size := Hrow3.out.lt
              have Hb1 : Hid (N + 1 ≤ maxLen ∧ (N + 1) * 64 ≤ 140737488355328) := by show _ ∧ _; simp only [maxLen]; omega
              have HSf : Hid (∀ w' : World, w1.grownBy w' none → w'.cell? ⟨h0 + 1, 1, none⟩ = some (.slice (some ⟨g', o', none⟩) m d') ∧ w'.cell? ⟨g', o' + kq * 6, none⟩ = some (.int .i64 y.d) ∧ w'.cell? ⟨g', o' + kq * 6 + 1, none⟩ = some (.int .i64 y.n) ∧ w'.cell? ⟨g', o' + kq * 6 + 2, none⟩ = some (.string y.key) ∧ w'.cell? ⟨g', o' + kq * 6 + 3, none⟩ = some (.int .i64 y.kind) ∧ w'.cell? ⟨g', o' + kq * 6 + 4, none⟩ = some (.string y.item) ∧ w'.cell? ⟨g', o' + kq * 6 + 5, none⟩ = some (.int .i64 y.v)) := fun W hW => by
                have k1 := HC1.out W hW
                obtain ⟨q0, q1, q2, q3, q4, q5⟩ := HX1.out W hW
                exact ⟨k1.2.2.2, q0, q1, q2, q3, q4, q5⟩
              have hkeep1 : ∀ i, Value.ownBlock (.slice A2 N c2) = some i → none = some i ∨ w1.heap.size ≤ i := fun i e => .inr (by have h := (Hown3.out.lt i e).1; have := Hob.out; omega)
              have HK1 := Lib.hid hkeep1
              have HK2 : Hid (some ob ≠ Value.ownBlock (.slice A2 N c2)) := fun e => by have h := (Hown3.out.lt ob e.symm).1; omega
              clear hkeep1
              apply wp_region_told_list (le := fun a b => a.grownBy b none) 8 [isV _, isV _, isV _, isV _, isV _, isV _, isV _, factV y]
              case hC => kernel_rfl
              case hlen => rfl
              case hn => rfl
              case hm => kernel_rfl
              case hB => kernel_rfl
              case ht => exact fun _ _ _ h k => gb_none h k
              case hw => exact gb_drew (gb_refl _ _)
              -- 0: ref.go:219 fieldAddr
              apply head_is
              · intro W f hW hE h0 K hK
                have e5 := h0 5 (by kernel_rfl)
                conv at e5 => rhs; whnf
                clear hE h0
                refine yes_of (want_free rfl) ?_
                go_simp; exact hK _ _ (gb_refl _ _) rfl
              -- 1: ref.go:219 load
              apply head_is
              · intro W f hW hE h0 K hK
                have e95 : f 95 = _ := hE 0 95 _ rfl (by kernel_rfl)
                clear hE h0
                refine yes_of (want_free rfl) ?_
                have c0 := (Hrow3.out.kept hW (by simp)).at_ (i := 1) rfl
                go_simp; exact hK _ _ (gb_refl _ _) rfl
              -- 2: ref.go:219 fieldAddr
              apply head_is
              · intro W f hW hE h0 K hK
                have e3 := h0 3 (by kernel_rfl)
                conv at e3 => rhs; whnf
                clear hE h0
                refine yes_of (want_free rfl) ?_
                go_simp; exact hK _ _ (gb_refl _ _) rfl
              -- 3: ref.go:219 load
              apply head_is
              · intro W f hW hE h0 K hK
                have e97 : f 97 = _ := hE 0 97 _ rfl (by kernel_rfl)
                clear hE h0
                refine yes_of (want_free rfl) ?_
                have c0 := HSf.out W (gb_none HG3.out hW)
                obtain ⟨k1, _, _, _, _, _, _⟩ := c0
                go_simp; exact hK _ _ (gb_refl _ _) rfl
              -- 4: ref.go:219 move
              apply head_is
              · intro W f hW hE h0 K hK
                have e7 := h0 7 (by kernel_rfl)
                conv at e7 => rhs; whnf
                clear hE h0
                refine yes_of (want_free rfl) ?_
                go_simp; exact hK _ _ (gb_refl _ _) rfl
              -- 5: ref.go:219 indexAddr
              apply head_is
              · intro W f hW hE h0 K hK
                have e98 : f 98 = _ := hE 1 98 _ rfl (by kernel_rfl)
                have e99 : f 99 = _ := hE 0 99 _ rfl (by kernel_rfl)
                clear hE h0
                refine yes_of (want_free rfl) ?_
                go_simp; exact hK _ _ (gb_refl _ _) rfl
              -- 6: ref.go:219 load
              apply head_is
              · intro W f hW hE h0 K hK
                have e100 : f 100 = _ := hE 0 100 _ rfl (by kernel_rfl)
                clear hE h0
                refine yes_of (want_free rfl) ?_
                have c0 := HSf.out W (gb_none HG3.out hW)
                obtain ⟨_, q0, q1, q2, q3, q4, q5⟩ := c0
                go_simp; exact hK _ _ (gb_refl _ _) rfl
              -- 7: ref.go:219 buildSlice
              apply head_at factV_stays
              · intro W f hW hE h0 K hK
                have e101 : f 101 = _ := hE 0 101 _ rfl (by kernel_rfl)
                clear hE h0
                refine yes_of (want_free rfl) ?_
                go_simp; exact hK _ _ (gb_alloc (gb_refl _ _) _) ⟨_, rfl, Row.new _ _ _⟩
              intro W f hW hA
              simp only [List.take_succ_cons, List.take_zero, List.drop_succ_cons, List.drop_zero, lexIn, Act.put, List.setIfInBounds_toArray, List.set_cons_zero, List.set_cons_succ]
              have e96 : f 96 = _ := hA 6 (some 96) _ rfl
              rw [e96]
              have e102 := hA 0 (some 102) _ rfl
              clear hA
              obtain ⟨gn, e79, hrn⟩ := e102
              rw [e79]
              have hWg := hW
              have Hrw := Lib.hid (Hrow3.out.kept hW (by simp))
              have Hgw : Hid (w1.grownBy W none) := gb_none HG3.out hW
              have Hownw : Hid (W.ownsRow (ob + 1) 46 6 (.slice A2 N c2) N (fv L)) := Hown3.out.kept hW (by cases hv : Value.ownBlock (.slice A2 N c2) <;> simp)
              have Hnews := Lib.hid hrn
              have hobw := Hrw.out.lt
              clear hW hWg hrn e79
              go_wp2_with (at_builtin; go_must (refine wpList_append_own _ rfl (.tmp 96) (.tmp 102) 23 rfl (ob + 1) 46 i0 (.agg #[.int .i64 0, .int .i64 0, .string ⟨#[]⟩, .int .i64 0, .string ⟨#[]⟩, .int .i64 0]) 6 64 Tryz.underlying23 Hi0.out Hz0.out Hz1.out Hz2.out rfl (by decide) _ N _ rfl Hownw.out ⟨gn, 0, none⟩ 1 1 (fv1 y) rfl rfl (World.news_of_block (cs := #[.int .i64 y.d, .int .i64 y.n, .string y.key, .int .i64 y.kind, .string y.item, .int .i64 y.v]) (t := 46) (fr := (0, 0)) Hnews.out) (fv1_one y) Hb1.out.1 Hb1.out.2 (by omega) ?_); intro v5 w5 own5 hgrow _; obtain ⟨g2, cap2, hv5⟩ := own_block6 own5; subst hv5; have r5 := Hrw.out.kept hgrow HK2.out; have s0 := r5.at_ (i := 1) rfl; have s1 := r5.free 1; have Hr5 := Lib.hid r5; have Hgrow := Lib.hid hgrow; have Own5 := Lib.hid own5; clear r5 hgrow own5)
              have Hrow5 : Hid (Row (w5.setCell ⟨ob, 1, none⟩ (.slice (some ⟨g2, 0, none⟩) (N + 1) cap2)) ob 25 #[.slice U Lu cu, .slice (some ⟨g2, 0, none⟩) (N + 1) cap2]) := by
                show Row _ _ _ _
                exact Hr5.out.set_ 1 (.slice (some ⟨g2, 0, none⟩) (N + 1) cap2)
              have Hown5 : Hid ((w5.setCell ⟨ob, 1, none⟩ (.slice (some ⟨g2, 0, none⟩) (N + 1) cap2)).ownsRow (ob + 1) 46 6 (.slice (some ⟨g2, 0, none⟩) (N + 1) cap2) (N + 1) (fv L ++ fv1 y)) := Own5.out.kept (gb_set1 _ ob 1 _) (.inr (fun e => by have h := (Own5.out.lt g2 rfl).1; have e2 : some g2 = some ob := e; cases e2; omega))
              have Hg5 : Hid (w1.grownBy (w5.setCell ⟨ob, 1, none⟩ (.slice (some ⟨g2, 0, none⟩) (N + 1) cap2)) none) := gb_new (gb_step Hgw.out Hgrow.out HK1.out) (gb_set1 _ ob 1 _) (Nat.le_of_eq Hob.out)
              have HJ2 : Hid (JI s t iq (kq + 1) (L ++ [y])) := HJ.out.b_ HSS.out.1 HSS.out.2 Hx.out (fun x hx => Hno.out x y hx Hx.out) Hsb.out
              clear hobw hlt3 HSf
              go_roundw
              case rel =>
                refine ⟨iq, kq + 1, L ++ [y], _, by omega, by omega, by rfl, by go_num, HJ2.out, by rw [List.length_append, HN.out, List.length_singleton]; omega, Hrow5.out, ?_, Hg5.out⟩
                rw [fv_append, List.length_append, HN.out, show fv [y] = fv1 y from List.append_nil _]
                exact Hown5.out
              case measure => simp [intOf]; omega
            | false =>
              have HJ2 : Hid (JI s t iq (kq + 1) L) := HJ.out.skipB Hx.out Hsb.out
              go_wp2_with fail
              go_roundw
              case rel => exact ⟨iq, kq + 1, L, _, by omega, by omega, by rfl, by go_num, HJ2.out, by rw [HN.out]; omega, Hrow3.out, by rw [HN.out]; exact Hown3.out, HG3.out⟩
              case measure => simp [intOf]; omega
    · have d1 : decide (iq < n) = false := decide_eq_false (by omega)
      have d2 : decide ((iq : Int) < (n : Int)) = false := decide_eq_false (by omega)
      have d3 : decide (kq < m) = false := decide_eq_false (by omega)
      have d4 : decide ((kq : Int) < (m : Int)) = false := decide_eq_false (by omega)
      have HD : Hid (L = joinF s t) := by
        show _ = _
        exact HJ.out.done HSS.out.1 HSS.out.2 (by rw [HLs.out.1]; omega) (by rw [HLt.out.1]; omega)
      have hR2 := Hr2.out.kept (gb_none HG1.out Hg.out) (by simp)
      have u0 := Hrow.out.at_ (i := 0) rfl
      have u1 := Hrow.out.at_ (i := 1) rfl
      have f0 := hR2.free 0
      have f1 := hR2.free 1
      have e0 := hR2.at_ (i := 0) rfl
      have e1 := hR2.at_ (i := 1) rfl
      have HR2 := Lib.hid hR2
      clear hR2
      go_wp2_with fail
      have r1 := HR2.out.set_ 0 (.slice U Lu cu)
      have r2 := r1.set_ 1 (.slice A2 N c2)
      have hob2 : h0 + 1 + 1 < ob := by have h := Hr2.out.lt; have h2 := HG1.out.size; have := Hob.out; omega
      have k1 := gb_set1 wr (h0 + 1 + 1) 0 (.slice U Lu cu)
      have k2 := gb_set1 (wr.setCell ⟨h0 + 1 + 1, 0, none⟩ (.slice U Lu cu)) (h0 + 1 + 1) 1 (.slice A2 N c2)
      have hne : Value.ownBlock (.slice A2 N c2) = none ∨ Value.ownBlock (.slice A2 N c2) ≠ some (h0 + 1 + 1) := .inr (fun e => by have h := (Hown.out.lt _ e).1; omega)
      have hF := own_fl' ((Hown.out.kept k1 hne).kept k2 hne) HN.out
      have hU := rl_beside (rl_beside (HU1.out.keep Hg.out) k1 HR2.out) k2 r1
      have hh := Hh0.out
      refine bodyPost_ret (results_cell_row rfl _ _ (h0 + 1 + 1) 25 _ (0, 0) _ rfl r2 Tryz.underlying25 rfl (by kernel_rfl)) rfl ⟨U, Lu, cu, A2, N, c2, rfl, ⟨hU, ?_⟩, Hcu.out, Hle2.out, gb_new (gb_new (gb_none HG.out (gb_none HG1.out Hg.out)) k1 (by omega)) k2 (by omega)⟩
      show FL _ _ _ (joinF s t)
      rw [← HD.out]; exact hF
end Go.Proofs.YthijiefopcnclaaGreatDoor.Dt
