/- The program's Minus. -/
import Derived.Test.YtkibojoochlggaaDtPUni
import Derived.WalkMore
namespace Go.Proofs.Ytkibojoochlggaa.Dt
open Go Go.RowKit Go.Proofs.Ytkibojoochlggaa.Mm Go.Proofs.Ytkibojoochlggaa.Td

theorem row_at3 {W : World} {g : Nat} {t : TypeId} {r : Rn} (h : Row W g t #[.int .i64 r.d, .int .i64 r.f, .int .i64 r.t]) : At3 W g 0 r := ⟨h.at_ (i := 0) rfl, h.at_ (i := 1) rfl, h.at_ (i := 2) rfl⟩
/-- What is left of a run of a. -/
structure MC (a b : List Rn) (i j : Nat) (rs : List Rn) (r cu : Rn) : Prop where
  d : cu.d = r.d
  t : cu.t = r.t
  inn : MJ a b i j rs r cu.f
theorem MC.eq {a b rs : List Rn} {i j : Nat} {r cu : Rn} (h : MC a b i j rs r cu) : (⟨r.d, cu.f, r.t⟩ : Rn) = cu := ext h.d.symm rfl h.t.symm
theorem MC.okc {a b rs : List Rn} {i j : Nat} {r cu : Rn} (h : MC a b i j rs r cu) (ho : Ok r) : Ok cu := by
  obtain ⟨k1, k2, k3, k4, k5⟩ := ho
  have := h.d; have := h.t; have := h.inn.low; have := h.inn.high
  exact ⟨by omega, by omega, by omega, by omega, by omega⟩
theorem piece_len (rs : List Rn) (r : Rn) (f : Int) (c : Rn) : (piece rs r f c).length ≤ rs.length + 1 := by unfold piece; split <;> simp
attribute [local go_sem] Td.upon_value Td.upon_skip Td.upon_enter Td.upon_row Td.look_tmp Td.look_const Td.look_func Td.look_global
set_option maxHeartbeats 16000000 in
set_option maxRecDepth 100000 in
theorem pMinus_any (A B : Option Addr) (n c m d : Nat) (a b : List Rn) (w : World) (ha : RL w A n a) (hb : RL w B m b) (ma : May a) (mb : May b) (hn : n ≤ 100000) (hm : m ≤ 100000) (hd : m ≤ d) :
    Calls Try.prog 19 #[.slice A n c, .slice B m d] w (Runs (minusR a b) w) := by
  obtain ⟨i0, hi0, hz0, hz1, hz2⟩ := info_parts run_inf
  have Hi0 := Lib.hid hi0
  have Hz0 := Lib.hid hz0
  have Hz1 := Lib.hid hz1
  have Hz2 := Lib.hid hz2
  clear hi0 hz0 hz1 hz2
  have Ha := Lib.hid ha
  have Hb := Lib.hid hb
  have Ma := Lib.hid ma
  have Mb := Lib.hid mb
  have Hd := Lib.hid hd
  have HSub := Lib.hid (Sub.start B m hb)
  clear ha hb ma mb hd
  go_enter Try.func19, Try.ntmps19
  go_wp2_with fail
  go_step3
  go_wp2_with fail
  go_step3
  go_wp2_with fail
  go_loopw [11, 5, 1] (fun i v bv wr => ∃ (k j L : Nat) (rs : List Rn) (A1 Bj : Option Addr) (c1 cj : Nat), k ≤ n ∧ j + L = m ∧ i = .int .i64 k ∧ Hid (MI a b k j rs) ∧ v = .slice A1 rs.length c1 ∧ wr.ownsRow w.heap.size 41 3 (.slice A1 rs.length c1) rs.length (rv rs.reverse) ∧ bv = .slice Bj L cj ∧ Hid (Sub B j L Bj) ∧ L ≤ cj ∧ Hid (rs = [] → A1 = none ∧ c1 = 0) ∧ w.grownBy wr none) (fun i _ _ _ => n - (intOf i).toNat)
  case atStart => exact ⟨0, 0, m, [], none, B, 0, d, Nat.zero_le _, Nat.zero_add _, rfl, MI.start a b, rfl, World.ownsRow_nil _ _ _ _, rfl, HSub.out, Hd.out, fun _ => ⟨rfl, rfl⟩, gb_refl _ _⟩
  case round =>
    obtain ⟨k, j, L, rs, A1, Bj, c1, cj, hk, hjL, rfl, HU, rfl, hown, rfl, HS, hLc, HV, hg⟩ := hrel
    by_cases hlt : k < n
    · have d1 : decide (k < n) = true := decide_eq_true hlt
      have d2 : decide ((k : Int) < (n : Int)) = true := decide_eq_true (by omega)
      have bk : (k : Int) < (n : Int) := by omega
      have hRL := Ha.out.keep hg
      obtain ⟨g, o, rfl, hgl, _⟩ := hRL.2 (by omega)
      obtain ⟨x, hx⟩ : ∃ x, a[k]? = some x := ⟨_, List.getElem?_eq_getElem (by rw [Ha.out.1]; exact hlt)⟩
      obtain ⟨h0, h1, h2⟩ := rl_at3 hRL hx
      have HJ : Hid (MC a b k j rs x x) := ⟨rfl, rfl, HU.out.into Ma.out hx⟩
      have Hx := Lib.hid hx
      clear hx hRL HU
      go_wp2_with fail
      obtain ⟨W4, hW4⟩ : ∃ W4, wr.alloc (.cells #[.int .i64 x.d, .int .i64 x.f, .int .i64 x.t] 41) = W4 := ⟨_, rfl⟩
      have hr4 : Row W4 wr.heap.size 41 #[.int .i64 x.d, .int .i64 x.f, .int .i64 x.t] := by rw [← hW4]; exact Row.new _ _ _
      have own4 : W4.ownsRow w.heap.size 41 3 (.slice A1 rs.length c1) rs.length (rv rs.reverse) := by rw [← hW4]; exact hown.alloc _
      have Hg4 : Hid (w.grownBy W4 none) := by show World.grownBy _ _ _; rw [← hW4]; exact gb_alloc hg _
      have hD : ∀ i, Value.ownBlock (.slice A1 rs.length c1) = some i → i ≠ wr.heap.size := fun i e => by have := (hown.lt i e).2; omega
      have HDn := Lib.hid hD
      have hw4 : w.heap.size ≤ wr.heap.size := hg.size
      rw [hW4]
      clear hW4 h0 h1 h2 hown hg hD d1 d2 bk
      generalize wr.heap.size = D4 at *
      have HJ0 := Lib.hid HJ
      clear HJ
      go_loopw [5, 1] (fun v bv wr => ∃ (j L : Nat) (rs : List Rn) (A1 Bj : Option Addr) (c1 cj : Nat) (cu : Rn), j + L = m ∧ Hid (MC a b k j rs x cu) ∧ v = .slice A1 rs.length c1 ∧ wr.ownsRow w.heap.size 41 3 (.slice A1 rs.length c1) rs.length (rv rs.reverse) ∧ bv = .slice Bj L cj ∧ Hid (Sub B j L Bj) ∧ L ≤ cj ∧ Hid (∀ i, Value.ownBlock (.slice A1 rs.length c1) = some i → i ≠ D4) ∧ Hid (rs = [] → A1 = none ∧ c1 = 0) ∧ Row wr D4 41 #[.int .i64 cu.d, .int .i64 cu.f, .int .i64 cu.t] ∧ w.grownBy wr none) (fun _ bv _ => lenV bv)
      case atStart => exact ⟨j, L, rs, A1, Bj, c1, cj, x, hjL, HJ0.out.out, rfl, own4, rfl, HS, hLc, HDn.out, HV.out, hr4, Hg4.out⟩
      case round =>
        clear HS HDn HJ0 own4 hr4 Hg4 HV hjL hLc
        obtain ⟨j, L, rs, A1, Bj, c1, cj, cu, hjL, HJ, rfl, hown, rfl, HS, hLc, HDn, HV, hrD, hg⟩ := hrel
        have hlen : rs.length ≤ 300000 := by have := HJ.out.inn.len; omega
        have hB : w.heap.size ≤ wr.heap.size := hg.size
        have HRD : Hid (∀ W, wr.grownBy W none → Row W D4 41 #[.int .i64 cu.d, .int .i64 cu.f, .int .i64 cu.t]) := fun W hW => hrD.kept hW (by simp)
        have HR : Hid (∀ W, wr.grownBy W none → At3 W D4 0 cu) := fun W hW => row_at3 (HRD.out W hW)
        have Hown := Lib.hid hown
        have Hg := Lib.hid hg
        have Hm1 : Hid (rs.length + 1 ≤ maxLen ∧ (rs.length + 1) * 24 ≤ 140737488355328) := by show _ ∧ _; simp only [maxLen]; omega
        clear hown hg hrD
        rcases L with _ | L
        · have z0 : decide (0 < 0) = false := by decide
          go_upto_region 5 with fail
          apply wp_region_told (le := fun a b => a.grownBy b none) [isV _, isV _, isV _, isV _, isV _, isV _, isV _, isV _, isV _, isV _, isV _]
          case hn => rfl
          case hm => kernel_rfl
          case hB => kernel_rfl
          case ht => exact fun _ _ _ h k => gb_none h k
          case hw => exact gb_drew (gb_refl _ _)
          -- 0: dots.go:63 move
          apply told_is
          · intro W f hW hE h0 K hK
            have e1 := h0 1 (by kernel_rfl)
            conv at e1 => rhs; whnf
            clear hE h0
            refine yes_of (want_free rfl) ?_
            go_simp; exact hK _ _ (gb_refl _ _) rfl
          -- 1: dots.go:63 call
          apply told_is
          · intro W f hW hE h0 K hK
            have e15 : f 15 = _ := hE 0 15 _ rfl (by kernel_rfl)
            clear hE h0
            refine yes_of (want_free rfl) ?_
            go_simp; exact hK _ _ (gb_refl _ _) rfl
          -- 2: dots.go:63 binOp
          apply told_is
          · intro W f hW hE h0 K hK
            have e16 : f 16 = _ := hE 0 16 _ rfl (by kernel_rfl)
            clear hE h0
            refine yes_of (want_free rfl) ?_
            go_simp; exact hK _ _ (gb_refl _ _) rfl
          -- 3: dots.go:63 move
          apply told_is
          · intro W f hW hE h0 K hK
            have e17 : f 17 = _ := hE 0 17 _ rfl (by kernel_rfl)
            clear hE h0
            refine yes_of (want_free rfl) ?_
            go_simp; exact hK _ _ (gb_refl _ _) rfl
          -- 4: dots.go:63 load
          apply told_is
          · intro W f hW hE h0 K hK
            have e18 : f 18 = _ := hE 0 18 _ rfl (by kernel_rfl)
            clear hE h0
            refine no_of (want_no rfl rfl e18 rfl) ?_
            exact hK _ _ (gb_refl _ _) rfl
          -- 5: dots.go:63 move
          apply told_is
          · intro W f hW hE h0 K hK
            have e18 : f 18 = _ := hE 1 18 _ rfl (by kernel_rfl)
            clear hE h0
            refine no_of (want_no rfl rfl e18 rfl) ?_
            exact hK _ _ (gb_refl _ _) rfl
          -- 6: dots.go:63 indexAddr
          apply told_is
          · intro W f hW hE h0 K hK
            have e18 : f 18 = _ := hE 2 18 _ rfl (by kernel_rfl)
            clear hE h0
            refine no_of (want_no rfl rfl e18 rfl) ?_
            exact hK _ _ (gb_refl _ _) rfl
          -- 7: dots.go:63 load
          apply told_is
          · intro W f hW hE h0 K hK
            have e18 : f 18 = _ := hE 3 18 _ rfl (by kernel_rfl)
            clear hE h0
            refine no_of (want_no rfl rfl e18 rfl) ?_
            exact hK _ _ (gb_refl _ _) rfl
          -- 8: dots.go:63 call
          apply told_is
          · intro W f hW hE h0 K hK
            have e18 : f 18 = _ := hE 4 18 _ rfl (by kernel_rfl)
            clear hE h0
            refine no_of (want_no rfl rfl e18 rfl) ?_
            exact hK _ _ (gb_refl _ _) rfl
          -- 9: dots.go:63 unOp
          apply told_is
          · intro W f hW hE h0 K hK
            have e18 : f 18 = _ := hE 5 18 _ rfl (by kernel_rfl)
            clear hE h0
            refine no_of (want_no rfl rfl e18 rfl) ?_
            exact hK _ _ (gb_refl _ _) rfl
          -- 10: dots.go:63 pick
          apply told_is
          · intro W f hW hE h0 K hK
            have e18 : f 18 = _ := hE 6 18 _ rfl (by kernel_rfl)
            have e24 : f 24 = _ := hE 0 24 _ rfl (by kernel_rfl)
            clear hE h0
            refine yes_of (want_free rfl) ?_
            go_simp; exact hK _ _ (gb_refl _ _) rfl
          intro W f hW hA
          simp only [lexIn, Act.put, List.setIfInBounds_toArray, List.set_cons_zero, List.set_cons_succ]
          have e25 : f 25 = _ := hA 0 (some 25) _ rfl
          rw [e25]
          clear hA
          have own5 : W.ownsRow w.heap.size 41 3 (.slice A1 rs.length c1) rs.length (rv rs.reverse) := Hown.out.kept hW (by cases hv : Value.ownBlock _ with | none => exact .inl rfl | some q => exact .inr (by simp))
          have Hg5 : Hid (w.grownBy W none) := gb_none Hg.out hW
          obtain ⟨h0, h1, h2⟩ := HR.out W hW
          have hBW : w.heap.size ≤ W.heap.size := Hg5.out.size
          have HU2 : Hid (MI a b (k + 1) j (cu :: rs)) := by
            have h := HJ.out.inn.out Ma.out Hx.out (by rw [drop_all (by rw [Hb.out.1]; omega)]; intro _ h; cases h)
            rwa [HJ.out.eq] at h
          have Hn6 := HDn
          go_wp2_with (at_builtin; refine wpList_append_lies _ rfl (.tmp 60) (.tmp 62) 22 rfl w.heap.size 41 i0 (.agg #[.int .i64 0, .int .i64 0, .int .i64 0]) 3 24 Try.underlying22 Hi0.out Hz0.out Hz1.out Hz2.out rfl (by decide) _ rs.length _ rfl (own5.alloc _) ⟨W.heap.size, 0, none⟩ 1 1 [.int .i64 cu.d, .int .i64 cu.f, .int .i64 cu.t] rfl rfl (news3 W cu.d cu.f cu.t 41) (ints3' _ _ _) (by decide) Hm1.out.1 Hm1.out.2 (by simp; omega) _ rfl ?_; intro g' cap' w' own' hgrow hat hlt')
          have Hg6 : Hid (w.grownBy w' none) := gb_step (gb_alloc Hg5.out _) hgrow (fun i e => .inr (own5.lt i e).1)
          have Hown6 : Hid (w'.ownsRow w.heap.size 41 3 (.slice (some ⟨g', 0, none⟩) (cu :: rs).length cap') (cu :: rs).length (rv (cu :: rs).reverse)) := by
            show World.ownsRow _ _ _ _ _ _ _
            rw [List.reverse_cons, rv_append]; exact own'
          clear own' hgrow hat hlt'
          exact ⟨⟨k + 1, j, 0, cu :: rs, _, _, cap', cj, by omega, hjL, by go_num, HU2.out, rfl, Hown6.out, rfl, HS.out, hLc, (fun h => (by cases h)), Hg6.out⟩, by simp [intOf]; omega⟩
        · obtain ⟨gB, oB, rfl, rfl⟩ := HS.out (by omega)
          obtain ⟨y, hy⟩ : ∃ y, b[j]? = some y := ⟨_, List.getElem?_eq_getElem (by rw [Hb.out.1]; omega)⟩
          have HBY : Hid (∀ W, w.grownBy W none → At3 W gB (oB + j * 3) y) := fun W hW => rl_at3 (Hb.out.keep hW) hy
          have HY : Hid (∀ W, wr.grownBy W none → At3 W gB (oB + j * 3) y) := fun W hW => HBY.out W (gb_none Hg.out hW)
          have Hy := Lib.hid hy
          have z0 : decide (0 < L + 1) = true := by simp
          have z1 : (0 : Int) < ((L + 1 : Nat) : Int) := by omega
          obtain ⟨bv, hbv⟩ : ∃ bv : Bool, decide (Ahd cu y) = bv := ⟨_, rfl⟩
          have Hbv := Lib.hid hbv
          clear hy hbv
          go_upto_region 5 with fail
          apply wp_region_told (le := fun a b => a.grownBy b none) [isV _, isV _, isV _, isV _, isV _, isV _, isV _, isV _, isV _, isV _, isV _]
          case hn => rfl
          case hm => kernel_rfl
          case hB => kernel_rfl
          case ht => exact fun _ _ _ h k => gb_none h k
          case hw => exact gb_drew (gb_refl _ _)
          -- 0: dots.go:63 move
          apply told_is
          · intro W f hW hE h0 K hK
            have e1 := h0 1 (by kernel_rfl)
            conv at e1 => rhs; whnf
            clear hE h0
            refine yes_of (want_free rfl) ?_
            go_simp; exact hK _ _ (gb_refl _ _) rfl
          -- 1: dots.go:63 call
          apply told_is
          · intro W f hW hE h0 K hK
            have e15 : f 15 = _ := hE 0 15 _ rfl (by kernel_rfl)
            clear hE h0
            refine yes_of (want_free rfl) ?_
            go_simp; exact hK _ _ (gb_refl _ _) rfl
          -- 2: dots.go:63 binOp
          apply told_is
          · intro W f hW hE h0 K hK
            have e16 : f 16 = _ := hE 0 16 _ rfl (by kernel_rfl)
            clear hE h0
            refine yes_of (want_free rfl) ?_
            go_simp; exact hK _ _ (gb_refl _ _) rfl
          -- 3: dots.go:63 move
          apply told_is
          · intro W f hW hE h0 K hK
            have e17 : f 17 = _ := hE 0 17 _ rfl (by kernel_rfl)
            clear hE h0
            refine yes_of (want_free rfl) ?_
            go_simp; exact hK _ _ (gb_refl _ _) rfl
          -- 4: dots.go:63 load
          apply told_is
          · intro W f hW hE h0 K hK
            have e7 := h0 7 (by kernel_rfl)
            conv at e7 => rhs; whnf
            have e18 : f 18 = _ := hE 0 18 _ rfl (by kernel_rfl)
            clear hE h0
            refine yes_of (want_yes rfl rfl e18) ?_
            obtain ⟨hc0, hc1, hc2⟩ := HR.out W hW
            go_simp; exact hK _ _ (gb_refl _ _) rfl
          -- 5: dots.go:63 move
          apply told_is
          · intro W f hW hE h0 K hK
            have e1 := h0 1 (by kernel_rfl)
            conv at e1 => rhs; whnf
            have e18 : f 18 = _ := hE 1 18 _ rfl (by kernel_rfl)
            clear hE h0
            refine yes_of (want_yes rfl rfl e18) ?_
            go_simp; exact hK _ _ (gb_refl _ _) rfl
          -- 6: dots.go:63 indexAddr
          apply told_is
          · intro W f hW hE h0 K hK
            have e20 : f 20 = _ := hE 0 20 _ rfl (by kernel_rfl)
            have e18 : f 18 = _ := hE 2 18 _ rfl (by kernel_rfl)
            clear hE h0
            refine yes_of (want_yes rfl rfl e18) ?_
            go_simp; exact hK _ _ (gb_refl _ _) rfl
          -- 7: dots.go:63 load
          apply told_is
          · intro W f hW hE h0 K hK
            have e21 : f 21 = _ := hE 0 21 _ rfl (by kernel_rfl)
            have e18 : f 18 = _ := hE 3 18 _ rfl (by kernel_rfl)
            clear hE h0
            refine yes_of (want_yes rfl rfl e18) ?_
            obtain ⟨hc0, hc1, hc2⟩ := HY.out W hW
            go_simp; exact hK _ _ (gb_refl _ _) rfl
          -- 8: dots.go:63 call
          apply told_is
          · intro W f hW hE h0 K hK
            have e19 : f 19 = _ := hE 3 19 _ rfl (by kernel_rfl)
            have e22 : f 22 = _ := hE 0 22 _ rfl (by kernel_rfl)
            have e18 : f 18 = _ := hE 4 18 _ rfl (by kernel_rfl)
            clear hE h0
            refine yes_of (want_yes rfl rfl e18) ?_
            go_simp
            refine (ahead_any cu y _).mono ?_
            rintro e w1 ⟨he, g⟩
            rw [Hbv.out] at he
            subst he
            exact ⟨_, rfl, hK _ _ g.gb rfl⟩
          -- 9: dots.go:63 unOp
          apply told_is
          · intro W f hW hE h0 K hK
            have e23 : f 23 = _ := hE 0 23 _ rfl (by kernel_rfl)
            have e18 : f 18 = _ := hE 5 18 _ rfl (by kernel_rfl)
            clear hE h0
            refine yes_of (want_yes rfl rfl e18) ?_
            go_simp; exact hK _ _ (gb_refl _ _) rfl
          -- 10: dots.go:63 pick
          apply told_is
          · intro W f hW hE h0 K hK
            have e18 : f 18 = _ := hE 6 18 _ rfl (by kernel_rfl)
            have e24 : f 24 = _ := hE 0 24 _ rfl (by kernel_rfl)
            clear hE h0
            refine yes_of (want_free rfl) ?_
            go_simp; exact hK _ _ (gb_refl _ _) rfl
          intro W f hW hA
          simp only [lexIn, Act.put, List.setIfInBounds_toArray, List.set_cons_zero, List.set_cons_succ]
          have e25 : f 25 = _ := hA 0 (some 25) _ rfl
          rw [e25]
          clear hA
          have own5 : W.ownsRow w.heap.size 41 3 (.slice A1 rs.length c1) rs.length (rv rs.reverse) := Hown.out.kept hW (by cases hv : Value.ownBlock _ with | none => exact .inl rfl | some q => exact .inr (by simp))
          have Hg5 : Hid (w.grownBy W none) := gb_none Hg.out hW
          have hBW : w.heap.size ≤ W.heap.size := Hg5.out.size
          have hrD5 := HRD.out W hW
          clear e25 hW HY HR Hown Hg HRD
          cases bv with
          | true =>
            have HU2 : Hid (MI a b (k + 1) j (cu :: rs)) := by
              have h := HJ.out.inn.out Ma.out Hx.out (by rw [HJ.out.eq]; exact ahd_later Mb.out Hy.out (of_decide_eq_true Hbv.out))
              rwa [HJ.out.eq] at h
            obtain ⟨h0, h1, h2⟩ := row_at3 hrD5
            clear hrD5
            have Hn6 := HDn
            go_wp2_with (at_builtin; refine wpList_append_lies _ rfl (.tmp 60) (.tmp 62) 22 rfl w.heap.size 41 i0 (.agg #[.int .i64 0, .int .i64 0, .int .i64 0]) 3 24 Try.underlying22 Hi0.out Hz0.out Hz1.out Hz2.out rfl (by decide) _ rs.length _ rfl (own5.alloc _) ⟨W.heap.size, 0, none⟩ 1 1 [.int .i64 cu.d, .int .i64 cu.f, .int .i64 cu.t] rfl rfl (news3 W cu.d cu.f cu.t 41) (ints3' _ _ _) (by decide) Hm1.out.1 Hm1.out.2 (by simp; omega) _ rfl ?_; intro g' cap' w' own' hgrow hat hlt')
            have Hg6 : Hid (w.grownBy w' none) := gb_step (gb_alloc Hg5.out _) hgrow (fun i e => .inr (own5.lt i e).1)
            have Hown6 : Hid (w'.ownsRow w.heap.size 41 3 (.slice (some ⟨g', 0, none⟩) (cu :: rs).length cap') (cu :: rs).length (rv (cu :: rs).reverse)) := by
              show World.ownsRow _ _ _ _ _ _ _
              rw [List.reverse_cons, rv_append]; exact own'
            clear own' hgrow hat hlt'
            exact ⟨⟨k + 1, j, L + 1, cu :: rs, _, _, cap', cj, by omega, hjL, by go_num, HU2.out, rfl, Hown6.out, rfl, HS.out, hLc, (fun h => (by cases h)), Hg6.out⟩, by simp [intOf]; omega⟩
          | false =>
            have hn1 : ¬ Ahd cu y := of_decide_eq_false Hbv.out
            obtain ⟨hc0, hc1, hc2⟩ := HBY.out W Hg5.out
            have HrD5 := Lib.hid hrD5
            have Hn1 := Lib.hid hn1
            clear hrD5 hn1 Hbv
            go_upto_region 7 with fail
            obtain ⟨W6, hW6⟩ : ∃ W6, W.alloc (.cells #[.int .i64 y.d, .int .i64 y.f, .int .i64 y.t] 41) = W6 := ⟨_, rfl⟩
            have hrE : Row W6 W.heap.size 41 #[.int .i64 y.d, .int .i64 y.f, .int .i64 y.t] := by rw [← hW6]; exact Row.new _ _ _
            have hrD : Row W6 D4 41 #[.int .i64 cu.d, .int .i64 cu.f, .int .i64 cu.t] := by rw [← hW6]; exact HrD5.out.alloc _
            have own6 : W6.ownsRow w.heap.size 41 3 (.slice A1 rs.length c1) rs.length (rv rs.reverse) := by rw [← hW6]; exact own5.alloc _
            have Hg6 : Hid (w.grownBy W6 none) := by show World.grownBy _ _ _; rw [← hW6]; exact gb_alloc Hg5.out _
            have HEn : Hid (∀ i, Value.ownBlock (.slice A1 rs.length c1) = some i → i ≠ W.heap.size) := fun i e => by have := (own5.lt i e).2; omega
            have hDW : D4 < W.heap.size := HrD5.out.lt
            rw [hW6]
            clear hW6 own5 Hg5 HrD5 hc0 hc1 hc2
            generalize W.heap.size = E4 at *
            obtain ⟨x0, x1, x2⟩ := row_at3 hrD
            obtain ⟨y0, y1, y2⟩ := row_at3 hrE
            obtain ⟨b2, hb2⟩ : ∃ b2 : Bool, decide (Ahd y cu) = b2 := ⟨_, rfl⟩
            have Hb2 := Lib.hid hb2
            have HrD := Lib.hid hrD
            have HrE := Lib.hid hrE
            clear hb2 hrD hrE
            go_upto_if 32 with (go_at_call 34; refine (ahead_any y cu _).mono ?_; rintro e w7 ⟨he, g7⟩; rw [Hb2.out] at he; subst he)
            have HrD7 : Hid (Row w7 D4 41 #[.int .i64 cu.d, .int .i64 cu.f, .int .i64 cu.t]) := HrD.out.kept g7.gb (by simp)
            have HrE7 : Hid (Row w7 E4 41 #[.int .i64 y.d, .int .i64 y.f, .int .i64 y.t]) := HrE.out.kept g7.gb (by simp)
            have own7 : w7.ownsRow w.heap.size 41 3 (.slice A1 rs.length c1) rs.length (rv rs.reverse) := own6.kept g7.gb (by cases hv : Value.ownBlock _ with | none => exact .inl rfl | some q => exact .inr (by simp))
            have Hown7 := Lib.hid own7
            have Hg7 : Hid (w.grownBy w7 none) := gb_none Hg6.out g7.gb
            clear g7 own6 own7 Hg6 HrD HrE x0 x1 x2 y0 y1 y2
            have z2 : (1 : Int) ≤ ((L + 1 : Nat) : Int) := by omega
            have z3 : ((L + 1 : Nat) : Int) ≤ (cj : Int) := by omega
            have z4 : (1 : Int) ≤ (L : Int) + 1 := by omega
            have z5 : (L : Int) + 1 ≤ (cj : Int) := by omega
            have z6 : (L : Int) + 1 - 1 = (L : Int) := by omega
            have z7 : 1 ≤ cj := by omega
            have hEW : D4 ≠ E4 := by omega
            have HEW := Lib.hid hEW
            clear hEW
            cases b2 with
            | true =>
              have HJ2 : Hid (MC a b k (j + 1) rs x cu) := ⟨HJ.out.d, HJ.out.t, HJ.out.inn.skip Ma.out Hx.out Hy.out (by rw [HJ.out.eq]; exact of_decide_eq_true Hb2.out)⟩
              by_cases hcj : cj = 1
              · subst hcj
                obtain rfl : L = 0 := by omega
                go_wp2_with fail
                go_roundw
                case rel => exact ⟨j + 1, 0, rs, A1, _, c1, _, cu, by omega, HJ2.out, rfl, Hown7.out, rfl, (fun h => absurd h (by omega)), by omega, HDn, HV, HrD7.out, Hg7.out⟩
                case measure => simp [lenV]
              · have hc2 : ¬ cj - 1 = 0 := by omega
                have hc3 : ¬ cj = 1 := hcj
                go_wp2_with fail
                go_roundw
                case rel => exact ⟨j + 1, L, rs, A1, _, c1, _, cu, by omega, HJ2.out, rfl, Hown7.out, rfl, (fun _ => ⟨gB, oB, rfl, by rw [show oB + (j + 1) * 3 = oB + j * 3 + 3 by omega]⟩), by omega, HDn, HV, HrD7.out, Hg7.out⟩
                case measure => simp [lenV]
            | false =>
              obtain ⟨ed, e1, e2, hMP⟩ := HJ.out.inn.piece Ma.out Mb.out Hx.out Hy.out (by rw [HJ.out.eq]; exact Hn1.out) (by rw [HJ.out.eq]; exact of_decide_eq_false Hb2.out)
              have HMP := Lib.hid hMP
              have Hed := Lib.hid ed
              have He2 := Lib.hid e2
              obtain ⟨y1, y2, y3, y4, y5⟩ := Mb.out.get Hy.out
              have w1 : IntKind.i64.wrap (y.f - 1) = y.f - 1 := by rw [IntKind.wrap_i64]; omega
              have w2 : IntKind.i64.wrap (y.t + 1) = y.t + 1 := by rw [IntKind.wrap_i64]; omega
              obtain ⟨x0, x1, x2⟩ := row_at3 HrD7.out
              obtain ⟨v0, v1, v2⟩ := row_at3 HrE7.out
              have hl2 := piece_len rs x cu.f y
              clear hMP ed e1 e2 y1 y2 y3 y4 y5
              obtain ⟨bf, hbf⟩ : ∃ bf : Bool, decide (cu.f < y.f) = bf := ⟨_, rfl⟩
              go_upto_if 37 with fail
              have Hbf := Lib.hid hbf
              clear hbf
              go_cut [5] (fun v wx => ∃ A2 c2, v = .slice A2 (piece rs x cu.f y).length c2 ∧ wx.ownsRow w.heap.size 41 3 (.slice A2 (piece rs x cu.f y).length c2) (piece rs x cu.f y).length (rv (piece rs x cu.f y).reverse) ∧ Hid (∀ i, Value.ownBlock (.slice A2 (piece rs x cu.f y).length c2) = some i → i ≠ D4) ∧ Row wx D4 41 #[.int .i64 cu.d, .int .i64 cu.f, .int .i64 cu.t] ∧ Row wx E4 41 #[.int .i64 y.d, .int .i64 y.f, .int .i64 y.t] ∧ Hid (piece rs x cu.f y = [] → A2 = none ∧ c2 = 0) ∧ w.grownBy wx none)
              case first =>
                cases bf with
                | true =>
                  have hf := of_decide_eq_true Hbf.out
                  have Hp : Hid (piece rs x cu.f y = ⟨x.d, cu.f, y.f - 1⟩ :: rs) := if_pos hf
                  have own7 := Hown7.out
                  have hbw7 : w.heap.size ≤ w7.heap.size := Hg7.out.size
                  have hD7 : D4 < w7.heap.size := HrD7.out.lt
                  have hE7 : E4 < w7.heap.size := HrE7.out.lt
                  clear hf
                  go_wp2_with (at_builtin; refine wpList_append_lies _ rfl (.tmp 38) (.tmp 47) 22 rfl w.heap.size 41 i0 (.agg #[.int .i64 0, .int .i64 0, .int .i64 0]) 3 24 Try.underlying22 Hi0.out Hz0.out Hz1.out Hz2.out rfl (by decide) _ rs.length _ rfl (own7.alloc _) ⟨w7.heap.size, 0, none⟩ 1 1 [.int .i64 cu.d, .int .i64 cu.f, .int .i64 (y.f - 1)] rfl rfl (news3 w7 cu.d cu.f (y.f - 1) 41) (ints3' _ _ _) (by decide) Hm1.out.1 Hm1.out.2 (by simp; omega) _ rfl ?_; intro g' cap' w' own' hgrow hat hlt')
                  have Hg8 : Hid (w.grownBy w' none) := gb_step (gb_alloc Hg7.out _) hgrow (fun i e => .inr (own7.lt i e).1)
                  have Hown8 : Hid (w'.ownsRow w.heap.size 41 3 (.slice (some ⟨g', 0, none⟩) (⟨x.d, cu.f, y.f - 1⟩ :: rs).length cap') (⟨x.d, cu.f, y.f - 1⟩ :: rs).length (rv (⟨x.d, cu.f, y.f - 1⟩ :: rs).reverse)) := by
                    show World.ownsRow _ _ _ _ _ _ _
                    rw [List.reverse_cons, rv_append, ← HJ.out.d]; exact own'
                  have HrD8 : Hid (Row w' D4 41 #[.int .i64 cu.d, .int .i64 cu.f, .int .i64 cu.t]) := (HrD7.out.alloc _).kept hgrow (fun e => HDn.out D4 e.symm rfl)
                  have HrE8 : Hid (Row w' E4 41 #[.int .i64 y.d, .int .i64 y.f, .int .i64 y.t]) := (HrE7.out.alloc _).kept hgrow (fun e => HEn.out E4 e.symm rfl)
                  have Hn8 : Hid (∀ i, some g' = some i → i ≠ D4) := fun i e => by
                    cases e
                    rcases hat with h | h
                    · exact HDn.out _ h
                    · simp at h; omega
                  clear own' hgrow hat hlt' own7
                  go_meet
                  rw [Hp.out]
                  exact ⟨_, _, rfl, Hown8.out, Hn8.out, HrD8.out, HrE8.out, (fun h => (by cases h)), Hg8.out⟩
                | false =>
                  have hf := of_decide_eq_false Hbf.out
                  have Hp : Hid (piece rs x cu.f y = rs) := if_neg hf
                  clear hf
                  go_wp2_with fail
                  go_meet
                  rw [Hp.out]
                  exact ⟨_, _, rfl, Hown7.out, HDn.out, HrD7.out, HrE7.out, HV.out, Hg7.out⟩
              case rest =>
                obtain ⟨A2, c2, rfl, hown8, Hn8, hrD8, hrE8, HV8, hg8⟩ := hcut
                generalize hp : piece rs x cu.f y = rs2 at *
                obtain ⟨x0, x1, x2⟩ := row_at3 hrD8
                obtain ⟨v0, v1, v2⟩ := row_at3 hrE8
                have HrD8 := Lib.hid hrD8
                have Hown8 := Lib.hid hown8
                have Hg8 := Lib.hid hg8
                have fz := hrD8.free 1
                have Hp := Lib.hid hp
                clear hp hrD8 hrE8 hown8 hg8
                clear Hbf
                by_cases ht : cu.t ≤ y.t
                · have dt : decide (cu.t ≤ y.t) = true := decide_eq_true ht
                  have HU2 : Hid (MI a b (k + 1) j rs2) := HMP.out.all Hx.out (by rw [← HJ.out.t]; exact ht)
                  clear ht
                  go_wp2_with fail
                  exact ⟨⟨k + 1, j, L + 1, rs2, A2, _, c2, cj, by omega, hjL, by go_num, HU2.out, rfl, Hown8.out, rfl, HS.out, hLc, HV8.out, Hg8.out⟩, by simp [intOf]; omega⟩
                · have dt : decide (cu.t ≤ y.t) = false := decide_eq_false ht
                  have HJ2 : Hid (MC a b k (j + 1) rs2 x ⟨cu.d, y.t + 1, cu.t⟩) := ⟨HJ.out.d, HJ.out.t, HMP.out.rest Ma.out Mb.out Hx.out Hy.out Hed.out (by have := HJ.out.inn.low; have := He2.out; omega) (by rw [← HJ.out.t]; omega)⟩
                  have HrD9 : Hid (Row (wc.setCell ⟨D4, 1, none⟩ (.int .i64 (y.t + 1))) D4 41 #[.int .i64 cu.d, .int .i64 (y.t + 1), .int .i64 cu.t]) := HrD8.out.set_ 1 (.int .i64 (y.t + 1))
                  have Hg9 : Hid (w.grownBy (wc.setCell ⟨D4, 1, none⟩ (.int .i64 (y.t + 1))) none) := gb_new Hg8.out (gb_set1 _ _ _ _) hw4
                  have Hown9 : Hid ((wc.setCell ⟨D4, 1, none⟩ (.int .i64 (y.t + 1))).ownsRow w.heap.size 41 3 (.slice A2 rs2.length c2) rs2.length (rv rs2.reverse)) := Hown8.out.kept (gb_set1 wc D4 1 (.int .i64 (y.t + 1))) (.inr fun e => Hn8.out D4 e rfl)
                  clear ht
                  by_cases hcj : cj = 1
                  · subst hcj
                    obtain rfl : L = 0 := by omega
                    go_wp2_with fail
                    go_roundw
                    case rel => exact ⟨j + 1, 0, rs2, A2, _, c2, _, _, by omega, HJ2.out, rfl, Hown9.out, rfl, (fun h => absurd h (by omega)), by omega, Hn8, HV8, HrD9.out, Hg9.out⟩
                    case measure => simp [lenV]
                  · have hc2 : ¬ cj - 1 = 0 := by omega
                    have hc3 : ¬ cj = 1 := hcj
                    go_wp2_with fail
                    go_roundw
                    case rel => exact ⟨j + 1, L, rs2, A2, _, c2, _, _, by omega, HJ2.out, rfl, Hown9.out, rfl, (fun _ => ⟨gB, oB, rfl, by rw [show oB + (j + 1) * 3 = oB + j * 3 + 3 by omega]⟩), by omega, Hn8, HV8, HrD9.out, Hg9.out⟩
                    case measure => simp [lenV]
    · have hkn : k = n := by omega
      subst hkn
      have d1 : decide (k < k) = false := by simp
      have d2 : decide ((k : Int) < (k : Int)) = false := by simp
      have Hfin : Hid (rs.reverse = minusR a b) := HU.out.fin Ma.out Mb.out (by rw [Ha.out.1]; exact Nat.le_refl _)
      obtain ⟨A3, c3, hv, hR, hc3⟩ := own_rl (l := rs.reverse) hown (by simp)
      cases hv
      have HR := Lib.hid hR
      have Hg := Lib.hid hg
      have Hc3 := Lib.hid hc3
      clear hR hown hg hc3 hlt
      go_wp2_with fail
      go_ret
      have el : (minusR a b).length = rs.length := by rw [← Hfin.out, List.length_reverse]
      refine ⟨A1, c1, by rw [el]; rfl, by rw [el, ← Hfin.out]; exact HR.out, ⟨fun h => HV.out (List.eq_nil_of_length_eq_zero (by rw [← el]; exact h)), by rw [el]; exact Hc3.out⟩, Hg.out⟩
end Go.Proofs.Ytkibojoochlggaa.Dt
