/- byBegin. The program's Union. -/
import Derived.Test.YtbdpckphlagijaaDoorFtA
import Derived.Test.YtbdpckphlagijaaDoorDtJoin
import Derived.Test.YtbdpckphlagijaaDoorDtB
import Derived.Deep.RegionHeld3
namespace Go.Proofs.YtbdpckphlagijaaDoor.Dt
open Go Go.RowKit Go.Proofs.YtbdpckphlagijaaDoor.Mm Go.Proofs.YtbdpckphlagijaaDoor.Td

/-- The order of where runs begin. -/
def byB (r s : Rn) : Int := orI (cmpI r.d s.d) (cmpI r.f s.f)
theorem byB_neg (r s : Rn) : byB r s < 0 ↔ r.d < s.d ∨ (r.d = s.d ∧ r.f < s.f) := by
  unfold byB orI cmpI
  by_cases h1 : r.d < s.d
  · simp [h1]
  · by_cases h2 : s.d < r.d
    · simp [h1, h2]; omega
    · have e : r.d = s.d := by omega
      by_cases h3 : r.f < s.f
      · simp [h1, h2, h3]; omega
      · by_cases h4 : s.f < r.f
        · simp [h1, h2, h3, h4]
        · simp [h1, h2, h3, h4]
attribute [local go_sem] Td.upon_value Td.upon_skip Td.upon_enter Td.upon_row Td.look_tmp Td.look_const Td.look_func Td.look_global
set_option maxHeartbeats 8000000 in
set_option maxRecDepth 100000 in
theorem byBegin_any (r s : Rn) (w : World) : Calls Tryd.prog 38 #[.agg #[.int .i64 r.d, .int .i64 r.f, .int .i64 r.t], .agg #[.int .i64 s.d, .int .i64 s.f, .int .i64 s.t]] w fun e w' => e = .returned (.int .i64 (byB r s)) ∧ Gr w w' := by
  have hE : byB r s = orI (cmpI r.d s.d) (cmpI r.f s.f) := rfl
  rw [hE]
  clear hE
  go_enter Tryd.func38, Tryd.ntmps38
  go_upto_region 1 with fail
  obtain ⟨W0, hW0⟩ : ∃ W0, (w.alloc (.cells #[.int .i64 r.d, .int .i64 r.f, .int .i64 r.t] 81)).alloc (.cells #[.int .i64 s.d, .int .i64 s.f, .int .i64 s.t] 81) = W0 := ⟨_, rfl⟩
  have hr0 : Row W0 w.heap.size 81 #[.int .i64 r.d, .int .i64 r.f, .int .i64 r.t] := by rw [← hW0]; exact (Row.new _ _ _).alloc _
  have hs0 : Row W0 (w.heap.size + 1) 81 #[.int .i64 s.d, .int .i64 s.f, .int .i64 s.t] := by
    rw [← hW0]
    have h := Row.new (w.alloc (.cells #[.int .i64 r.d, .int .i64 r.f, .int .i64 r.t] 81)) 81 #[.int .i64 s.d, .int .i64 s.f, .int .i64 s.t]
    rwa [World.size_alloc] at h
  have HG : Hid (Gr w W0) := by show Gr w W0; rw [← hW0]; exact ((Gr.refl w).alloc _).alloc _
  have HR0 : Hid (∀ W, Gr W0 W → W.cell? ⟨w.heap.size, 0, none⟩ = some (.int .i64 r.d)) := fun W hW => (hr0.kept hW.gb (by simp)).at_ (i := 0) rfl
  have HR1 : Hid (∀ W, Gr W0 W → W.cell? ⟨w.heap.size, 1, none⟩ = some (.int .i64 r.f)) := fun W hW => (hr0.kept hW.gb (by simp)).at_ (i := 1) rfl
  have HS0 : Hid (∀ W, Gr W0 W → W.cell? ⟨w.heap.size + 1, 0, none⟩ = some (.int .i64 s.d)) := fun W hW => (hs0.kept hW.gb (by simp)).at_ (i := 0) rfl
  have HS1 : Hid (∀ W, Gr W0 W → W.cell? ⟨w.heap.size + 1, 1, none⟩ = some (.int .i64 s.f)) := fun W hW => (hs0.kept hW.gb (by simp)).at_ (i := 1) rfl
  rw [hW0]
  clear hW0 hr0 hs0
  apply wp_region_told (le := Gr) [isV _, isV _, isV _, isV _, isV _, isV _, isV _, isV _, isV _, isV _, twoV (cmpI r.d s.d) (cmpI r.f s.f), isV _, isV _]
  case hn => rfl
  case hm => kernel_rfl
  case hB => kernel_rfl
  case ht => exact fun _ _ _ h k => Gr.trans h k
  case hw => exact (Gr.refl _).drew
  -- 0: run.go:22 fieldAddr
  apply told_is
  · intro W f hW hE h0 K hK
    have e2 := h0 2 (by kernel_rfl)
    conv at e2 => rhs; whnf
    clear hE h0
    refine yes_of (want_free rfl) ?_
    go_simp; exact hK _ _ (Gr.refl _) rfl
  -- 1: run.go:22 load
  apply told_is
  · intro W f hW hE h0 K hK
    have e5 : f 5 = _ := hE 0 5 _ rfl (by kernel_rfl)
    clear hE h0
    refine yes_of (want_free rfl) ?_
    have hc := HR0.out W hW
    go_simp; exact hK _ _ (Gr.refl _) rfl
  -- 2: run.go:22 fieldAddr
  apply told_is
  · intro W f hW hE h0 K hK
    have e3 := h0 3 (by kernel_rfl)
    conv at e3 => rhs; whnf
    clear hE h0
    refine yes_of (want_free rfl) ?_
    go_simp; exact hK _ _ (Gr.refl _) rfl
  -- 3: run.go:22 load
  apply told_is
  · intro W f hW hE h0 K hK
    have e7 : f 7 = _ := hE 0 7 _ rfl (by kernel_rfl)
    clear hE h0
    refine yes_of (want_free rfl) ?_
    have hc := HS0.out W hW
    go_simp; exact hK _ _ (Gr.refl _) rfl
  -- 4: run.go:22 call
  apply told_is
  · intro W f hW hE h0 K hK
    have e6 : f 6 = _ := hE 2 6 _ rfl (by kernel_rfl)
    have e8 : f 8 = _ := hE 0 8 _ rfl (by kernel_rfl)
    clear hE h0
    refine yes_of (want_free rfl) ?_
    go_simp
    refine (compare_any r.d s.d _).mono ?_
    rintro e w1 ⟨rfl, rfl⟩
    exact ⟨_, rfl, hK _ _ (Gr.refl _) rfl⟩
  -- 5: run.go:22 fieldAddr
  apply told_is
  · intro W f hW hE h0 K hK
    have e2 := h0 2 (by kernel_rfl)
    conv at e2 => rhs; whnf
    clear hE h0
    refine yes_of (want_free rfl) ?_
    go_simp; exact hK _ _ (Gr.refl _) rfl
  -- 6: run.go:22 load
  apply told_is
  · intro W f hW hE h0 K hK
    have e10 : f 10 = _ := hE 0 10 _ rfl (by kernel_rfl)
    clear hE h0
    refine yes_of (want_free rfl) ?_
    have hc := HR1.out W hW
    go_simp; exact hK _ _ (Gr.refl _) rfl
  -- 7: run.go:22 fieldAddr
  apply told_is
  · intro W f hW hE h0 K hK
    have e3 := h0 3 (by kernel_rfl)
    conv at e3 => rhs; whnf
    clear hE h0
    refine yes_of (want_free rfl) ?_
    go_simp; exact hK _ _ (Gr.refl _) rfl
  -- 8: run.go:22 load
  apply told_is
  · intro W f hW hE h0 K hK
    have e12 : f 12 = _ := hE 0 12 _ rfl (by kernel_rfl)
    clear hE h0
    refine yes_of (want_free rfl) ?_
    have hc := HS1.out W hW
    go_simp; exact hK _ _ (Gr.refl _) rfl
  -- 9: run.go:22 call
  apply told_is
  · intro W f hW hE h0 K hK
    have e11 : f 11 = _ := hE 2 11 _ rfl (by kernel_rfl)
    have e13 : f 13 = _ := hE 0 13 _ rfl (by kernel_rfl)
    clear hE h0
    refine yes_of (want_free rfl) ?_
    go_simp
    refine (compare_any r.f s.f _).mono ?_
    rintro e w1 ⟨rfl, rfl⟩
    exact ⟨_, rfl, hK _ _ (Gr.refl _) rfl⟩
  -- 10: run.go:22 buildSlice
  apply told_at twoV_stays
  · intro W f hW hE h0 K hK
    have e9 : f 9 = _ := hE 5 9 _ rfl (by kernel_rfl)
    have e14 : f 14 = _ := hE 0 14 _ rfl (by kernel_rfl)
    clear hE h0
    refine yes_of (want_free rfl) ?_
    go_simp
    exact hK _ _ ((Gr.refl _).alloc _) ⟨_, rfl, Row.new _ _ _⟩
  -- 11: run.go:22 call
  apply told_is
  · intro W f hW hE h0 K hK
    have e15 := hE 0 15 _ rfl (by kernel_rfl)
    clear hE h0
    refine yes_of (want_free rfl) ?_
    obtain ⟨g, ev, hr⟩ := e15
    go_simp
    refine (or_any g (cmpI r.d s.d) (cmpI r.f s.f) _ hr).mono ?_
    rintro e w1 ⟨rfl, rfl⟩
    exact ⟨_, rfl, hK _ _ (Gr.refl _) rfl⟩
  -- 12: run.go:22 assign
  apply told_is
  · intro W f hW hE h0 K hK
    have e16 : f 16 = _ := hE 0 16 _ rfl (by kernel_rfl)
    clear hE h0
    refine yes_of (want_free rfl) ?_
    go_simp; exact hK _ _ (Gr.refl _) rfl
  intro W f hW hA
  simp only [lexIn, Act.put, List.setIfInBounds_toArray, List.set_cons_zero, List.set_cons_succ]
  have e4 : f 4 = _ := hA 0 (some 4) _ rfl
  rw [e4]
  clear hA
  go_wp2_with fail
  go_ret
  exact ⟨rfl, HG.out.trans hW⟩
end Go.Proofs.YtbdpckphlagijaaDoor.Dt

namespace Go.Proofs.YtbdpckphlagijaaDoor.Dt
open Go Go.RowKit Go.Proofs.YtbdpckphlagijaaDoor.Mm Go.Proofs.YtbdpckphlagijaaDoor.Td

/-- What is left of a slice behind its first j. -/
def Sub (B : Option Addr) (j L : Nat) (Bj : Option Addr) : Prop := 0 < L → ∃ g o, B = some ⟨g, o, none⟩ ∧ Bj = some ⟨g, o + j * 3, none⟩
theorem Sub.start (B : Option Addr) (L : Nat) {w : World} {b : List Rn} (h : RL w B L b) : Sub B 0 L B := fun hL => by
  obtain ⟨g, o, e, _⟩ := h.2 hL
  exact ⟨g, o, e, by rw [e]; simp⟩
theorem may_len {a : List Rn} {n : Nat} {w : World} {A : Option Addr} (h : RL w A n a) : a.length = n := h.1
attribute [local go_sem] Td.upon_value Td.upon_skip Td.upon_enter Td.upon_row Td.look_tmp Td.look_const Td.look_func Td.look_global
set_option maxHeartbeats 16000000 in
set_option maxRecDepth 100000 in
theorem pUnion_any (A B : Option Addr) (n c m d : Nat) (a b : List Rn) (w : World) (ha : RL w A n a) (hb : RL w B m b) (ma : May a) (mb : May b) (hn : n ≤ 100000) (hm : m ≤ 100000) (hd : m ≤ d) :
    Calls Tryd.prog 35 #[.slice A n c, .slice B m d] w (Runs (unionR a b) w) := by
  have Ha := Lib.hid ha
  have Hb := Lib.hid hb
  have Ma := Lib.hid ma
  have Mb := Lib.hid mb
  have Hd := Lib.hid hd
  have HSub := Lib.hid (Sub.start B m hb)
  clear ha hb ma mb hd
  go_enter Tryd.func35, Tryd.ntmps35
  go_wp2_with fail
  go_loopw [12, 5, 1] (fun i v bv wr => ∃ (k j L : Nat) (rs : List Rn) (A1 Bj : Option Addr) (c1 cj : Nat), k ≤ n ∧ j + L = m ∧ i = .int .i64 k ∧ Hid (UI a b k j rs) ∧ v = .slice A1 rs.length c1 ∧ wr.ownsRow w.heap.size 81 3 (.slice A1 rs.length c1) rs.length (rv rs.reverse) ∧ bv = .slice Bj L cj ∧ Hid (Sub B j L Bj) ∧ L ≤ cj ∧ Hid (rs = [] → A1 = none ∧ c1 = 0) ∧ w.grownBy wr none) (fun i _ _ _ => n - (intOf i).toNat)
  case atStart => exact ⟨0, 0, m, [], none, B, 0, d, Nat.zero_le _, Nat.zero_add _, rfl, UI.start a b, rfl, World.ownsRow_nil _ _ _ _, rfl, HSub.out, Hd.out, fun _ => ⟨rfl, rfl⟩, gb_refl _ _⟩
  case round =>
    obtain ⟨k, j, L, rs, A1, Bj, c1, cj, hk, hjL, rfl, HU, rfl, hown, rfl, HS, hLc, HV, hg⟩ := hrel
    by_cases hlt : k < n
    · have d1 : decide (k < n) = true := decide_eq_true hlt
      have d2 : decide ((k : Int) < (n : Int)) = true := decide_eq_true (by omega)
      have bk : (k : Int) < (n : Int) := by omega
      have hRL := Ha.out.keep hg
      obtain ⟨g, o, rfl, hgl, _⟩ := hRL.2 (by omega)
      obtain ⟨x, hx⟩ : ∃ x, a[k]? = some x := ⟨_, List.getElem?_eq_getElem (by rw [Ha.out.1]; exact hlt)⟩
      obtain ⟨h0, h1, h2⟩ := rl_at3 hRL hx
      have Hx := Lib.hid hx
      clear hx hRL
      go_wp2_with fail
      obtain ⟨W4, hW4⟩ : ∃ W4, wr.alloc (.cells #[.int .i64 x.d, .int .i64 x.f, .int .i64 x.t] 81) = W4 := ⟨_, rfl⟩
      have hb4 : At3 W4 wr.heap.size 0 x := by rw [← hW4]; exact box3 _ _ _
      have hs4 : wr.heap.size < W4.heap.size := by rw [← hW4]; simp
      have own4 : W4.ownsRow w.heap.size 81 3 (.slice A1 rs.length c1) rs.length (rv rs.reverse) := by rw [← hW4]; exact hown.alloc _
      have Hg4 : Hid (w.grownBy W4 none) := by show World.grownBy _ _ _; rw [← hW4]; exact gb_alloc hg _
      have hD : ∀ i, Value.ownBlock (.slice A1 rs.length c1) = some i → i ≠ wr.heap.size := fun i e => by have := (hown.lt i e).2; omega
      have HDn := Lib.hid hD
      have hw4 : w.heap.size ≤ wr.heap.size := hg.size
      rw [hW4]
      clear hW4 h0 h1 h2 hown hg hD d1 d2 bk
      generalize wr.heap.size = D4 at *
      have HU0 := Lib.hid HU
      clear HU
      go_loopw [5, 1] (fun v bv wr => ∃ (j L : Nat) (rs : List Rn) (A1 Bj : Option Addr) (c1 cj : Nat), j + L = m ∧ Hid (UI a b k j rs) ∧ v = .slice A1 rs.length c1 ∧ wr.ownsRow w.heap.size 81 3 (.slice A1 rs.length c1) rs.length (rv rs.reverse) ∧ bv = .slice Bj L cj ∧ Hid (Sub B j L Bj) ∧ L ≤ cj ∧ Hid (∀ i, Value.ownBlock (.slice A1 rs.length c1) = some i → i ≠ D4) ∧ At3 wr D4 0 x ∧ D4 < wr.heap.size ∧ w.grownBy wr none) (fun _ bv _ => lenV bv)
      case atStart => exact ⟨j, L, rs, A1, Bj, c1, cj, hjL, HU0.out.out, rfl, own4, rfl, HS, hLc, HDn.out, hb4, hs4, Hg4.out⟩
      case round =>
        clear HS HDn HU0 own4 hb4 Hg4 HV hjL hLc hs4
        obtain ⟨j, L, rs, A1, Bj, c1, cj, hjL, HU, rfl, hown, rfl, HS, hLc, HDn, hbx, hDl, hg⟩ := hrel
        have hlen : rs.length ≤ 300000 := by have := HU.out.len; omega
        have hB : w.heap.size ≤ wr.heap.size := hg.size
        have HR : Hid (∀ W, wr.grownBy W none → At3 W D4 0 x) := fun W hW => hbx.keep hDl hW
        have Hown := Lib.hid hown
        have Hg := Lib.hid hg
        clear hown hg hbx
        rcases L with _ | L
        · have z0 : decide (0 < 0) = false := by decide
          go_upto_region 5 with fail
          apply wp_region_told (le := fun a b => a.grownBy b none) [isV _, isV _, isV _, isV _, isV _, isV _, isV _, isV _, isV _, isV _, isV _]
          case hn => rfl
          case hm => kernel_rfl
          case hB => kernel_rfl
          case ht => exact fun _ _ _ h k => gb_none h k
          case hw => exact gb_drew (gb_refl _ _)
          -- 0: dots.go:47 move
          apply told_is
          · intro W f hW hE h0 K hK
            have e1 := h0 1 (by kernel_rfl)
            conv at e1 => rhs; whnf
            clear hE h0
            refine yes_of (want_free rfl) ?_
            go_simp; exact hK _ _ (gb_refl _ _) rfl
          -- 1: dots.go:47 call
          apply told_is
          · intro W f hW hE h0 K hK
            have e16 : f 16 = _ := hE 0 16 _ rfl (by kernel_rfl)
            clear hE h0
            refine yes_of (want_free rfl) ?_
            go_simp; exact hK _ _ (gb_refl _ _) rfl
          -- 2: dots.go:47 binOp
          apply told_is
          · intro W f hW hE h0 K hK
            have e17 : f 17 = _ := hE 0 17 _ rfl (by kernel_rfl)
            clear hE h0
            refine yes_of (want_free rfl) ?_
            go_simp; exact hK _ _ (gb_refl _ _) rfl
          -- 3: dots.go:47 move
          apply told_is
          · intro W f hW hE h0 K hK
            have e18 : f 18 = _ := hE 0 18 _ rfl (by kernel_rfl)
            clear hE h0
            refine yes_of (want_free rfl) ?_
            go_simp; exact hK _ _ (gb_refl _ _) rfl
          -- 4: dots.go:47 move
          apply told_is
          · intro W f hW hE h0 K hK
            have e19 : f 19 = _ := hE 0 19 _ rfl (by kernel_rfl)
            clear hE h0
            refine no_of (want_no rfl rfl e19 rfl) ?_
            exact hK _ _ (gb_refl _ _) rfl
          -- 5: dots.go:47 indexAddr
          apply told_is
          · intro W f hW hE h0 K hK
            have e19 : f 19 = _ := hE 1 19 _ rfl (by kernel_rfl)
            clear hE h0
            refine no_of (want_no rfl rfl e19 rfl) ?_
            exact hK _ _ (gb_refl _ _) rfl
          -- 6: dots.go:47 load
          apply told_is
          · intro W f hW hE h0 K hK
            have e19 : f 19 = _ := hE 2 19 _ rfl (by kernel_rfl)
            clear hE h0
            refine no_of (want_no rfl rfl e19 rfl) ?_
            exact hK _ _ (gb_refl _ _) rfl
          -- 7: dots.go:47 load
          apply told_is
          · intro W f hW hE h0 K hK
            have e19 : f 19 = _ := hE 3 19 _ rfl (by kernel_rfl)
            clear hE h0
            refine no_of (want_no rfl rfl e19 rfl) ?_
            exact hK _ _ (gb_refl _ _) rfl
          -- 8: dots.go:47 call
          apply told_is
          · intro W f hW hE h0 K hK
            have e19 : f 19 = _ := hE 4 19 _ rfl (by kernel_rfl)
            clear hE h0
            refine no_of (want_no rfl rfl e19 rfl) ?_
            exact hK _ _ (gb_refl _ _) rfl
          -- 9: dots.go:47 binOp
          apply told_is
          · intro W f hW hE h0 K hK
            have e19 : f 19 = _ := hE 5 19 _ rfl (by kernel_rfl)
            clear hE h0
            refine no_of (want_no rfl rfl e19 rfl) ?_
            exact hK _ _ (gb_refl _ _) rfl
          -- 10: dots.go:47 pick
          apply told_is
          · intro W f hW hE h0 K hK
            have e19 : f 19 = _ := hE 6 19 _ rfl (by kernel_rfl)
            have e25 : f 25 = _ := hE 0 25 _ rfl (by kernel_rfl)
            clear hE h0
            refine yes_of (want_free rfl) ?_
            go_simp; exact hK _ _ (gb_refl _ _) rfl
          intro W f hW hA
          simp only [lexIn, Act.put, List.setIfInBounds_toArray, List.set_cons_zero, List.set_cons_succ]
          have e26 : f 26 = _ := hA 0 (some 26) _ rfl
          rw [e26]
          clear hA
          have Hown5 : Hid (W.ownsRow w.heap.size 81 3 (.slice A1 rs.length c1) rs.length (rv rs.reverse)) := Hown.out.kept hW (by cases hv : Value.ownBlock _ with | none => exact .inl rfl | some q => exact .inr (by simp))
          have Hg5 : Hid (w.grownBy W none) := gb_none Hg.out hW
          obtain ⟨h0, h1, h2⟩ := HR.out W hW
          have hBW : w.heap.size ≤ W.heap.size := Hg5.out.size
          have HU2 : Hid (UI a b (k + 1) j (jn rs x)) := HU.out.stepA Ma.out Hx.out (by rw [drop_all (by rw [Hb.out.1]; omega)]; intro _ h; cases h)
          have Hs5 : Hid (∀ s ∈ rs, Ok s) := HU.out.may.1
          have Hox : Hid (Ok x) := Ma.out.get Hx.out
          go_wp2_with (go_at_call 39; refine (joined_any w.heap.size A1 rs.length c1 rs x _ Hown5.out rfl hBW Hs5.out Hox.out (by omega)).mono ?_; rintro e w1 ⟨A2, c2, rfl, own2, g2, hat2⟩)
          have Hg6 : Hid (w.grownBy w1 none) := gb_step Hg5.out g2 (fun i e => .inr (Hown5.out.lt i e).1)
          have Hown6 := Lib.hid own2
          clear own2 g2 hat2
          exact ⟨⟨k + 1, j, 0, jn rs x, A2, _, c2, cj, by omega, hjL, by go_num, HU2.out, rfl, Hown6.out, rfl, HS.out, hLc, (fun h => absurd (jn_len rs x).2 (by rw [h]; decide)), Hg6.out⟩, by simp [intOf]; omega⟩
        · obtain ⟨gB, oB, rfl, rfl⟩ := HS.out (by omega)
          obtain ⟨y, hy⟩ : ∃ y, b[j]? = some y := ⟨_, List.getElem?_eq_getElem (by rw [Hb.out.1]; omega)⟩
          have HBY : Hid (∀ W, w.grownBy W none → At3 W gB (oB + j * 3) y) := fun W hW => rl_at3 (Hb.out.keep hW) hy
          have HY : Hid (∀ W, wr.grownBy W none → At3 W gB (oB + j * 3) y) := fun W hW => HBY.out W (gb_none Hg.out hW)
          have Hy := Lib.hid hy
          have z0 : decide (0 < L + 1) = true := by simp
          have z1 : (0 : Int) < ((L + 1 : Nat) : Int) := by omega
          clear hy
          go_upto_region 5 with fail
          apply wp_region_told (le := fun a b => a.grownBy b none) [isV _, isV _, isV _, isV _, isV _, isV _, isV _, isV _, isV _, isV _, isV _]
          case hn => rfl
          case hm => kernel_rfl
          case hB => kernel_rfl
          case ht => exact fun _ _ _ h k => gb_none h k
          case hw => exact gb_drew (gb_refl _ _)
          -- 0: dots.go:47 move
          apply told_is
          · intro W f hW hE h0 K hK
            have e1 := h0 1 (by kernel_rfl)
            conv at e1 => rhs; whnf
            clear hE h0
            refine yes_of (want_free rfl) ?_
            go_simp; exact hK _ _ (gb_refl _ _) rfl
          -- 1: dots.go:47 call
          apply told_is
          · intro W f hW hE h0 K hK
            have e16 : f 16 = _ := hE 0 16 _ rfl (by kernel_rfl)
            clear hE h0
            refine yes_of (want_free rfl) ?_
            go_simp; exact hK _ _ (gb_refl _ _) rfl
          -- 2: dots.go:47 binOp
          apply told_is
          · intro W f hW hE h0 K hK
            have e17 : f 17 = _ := hE 0 17 _ rfl (by kernel_rfl)
            clear hE h0
            refine yes_of (want_free rfl) ?_
            go_simp; exact hK _ _ (gb_refl _ _) rfl
          -- 3: dots.go:47 move
          apply told_is
          · intro W f hW hE h0 K hK
            have e18 : f 18 = _ := hE 0 18 _ rfl (by kernel_rfl)
            clear hE h0
            refine yes_of (want_free rfl) ?_
            go_simp; exact hK _ _ (gb_refl _ _) rfl
          -- 4: dots.go:47 move
          apply told_is
          · intro W f hW hE h0 K hK
            have e1 := h0 1 (by kernel_rfl)
            conv at e1 => rhs; whnf
            have e19 : f 19 = _ := hE 0 19 _ rfl (by kernel_rfl)
            clear hE h0
            refine yes_of (want_yes rfl rfl e19) ?_
            go_simp; exact hK _ _ (gb_refl _ _) rfl
          -- 5: dots.go:47 indexAddr
          apply told_is
          · intro W f hW hE h0 K hK
            have e20 : f 20 = _ := hE 0 20 _ rfl (by kernel_rfl)
            have e19 : f 19 = _ := hE 1 19 _ rfl (by kernel_rfl)
            clear hE h0
            refine yes_of (want_yes rfl rfl e19) ?_
            go_simp; exact hK _ _ (gb_refl _ _) rfl
          -- 6: dots.go:47 load
          apply told_is
          · intro W f hW hE h0 K hK
            have e21 : f 21 = _ := hE 0 21 _ rfl (by kernel_rfl)
            have e19 : f 19 = _ := hE 2 19 _ rfl (by kernel_rfl)
            clear hE h0
            refine yes_of (want_yes rfl rfl e19) ?_
            obtain ⟨hc0, hc1, hc2⟩ := HY.out W hW
            go_simp; exact hK _ _ (gb_refl _ _) rfl
          -- 7: dots.go:47 load
          apply told_is
          · intro W f hW hE h0 K hK
            have e7 := h0 7 (by kernel_rfl)
            conv at e7 => rhs; whnf
            have e19 : f 19 = _ := hE 3 19 _ rfl (by kernel_rfl)
            clear hE h0
            refine yes_of (want_yes rfl rfl e19) ?_
            obtain ⟨hc0, hc1, hc2⟩ := HR.out W hW
            go_simp; exact hK _ _ (gb_refl _ _) rfl
          -- 8: dots.go:47 call
          apply told_is
          · intro W f hW hE h0 K hK
            have e22 : f 22 = _ := hE 1 22 _ rfl (by kernel_rfl)
            have e23 : f 23 = _ := hE 0 23 _ rfl (by kernel_rfl)
            have e19 : f 19 = _ := hE 4 19 _ rfl (by kernel_rfl)
            clear hE h0
            refine yes_of (want_yes rfl rfl e19) ?_
            go_simp
            refine (byBegin_any y x _).mono ?_
            rintro e w1 ⟨rfl, g⟩
            exact ⟨_, rfl, hK _ _ g.gb rfl⟩
          -- 9: dots.go:47 binOp
          apply told_is
          · intro W f hW hE h0 K hK
            have e24 : f 24 = _ := hE 0 24 _ rfl (by kernel_rfl)
            have e19 : f 19 = _ := hE 5 19 _ rfl (by kernel_rfl)
            clear hE h0
            refine yes_of (want_yes rfl rfl e19) ?_
            go_simp; exact hK _ _ (gb_refl _ _) rfl
          -- 10: dots.go:47 pick
          apply told_is
          · intro W f hW hE h0 K hK
            have e19 : f 19 = _ := hE 6 19 _ rfl (by kernel_rfl)
            have e25 : f 25 = _ := hE 0 25 _ rfl (by kernel_rfl)
            clear hE h0
            refine yes_of (want_free rfl) ?_
            go_simp; exact hK _ _ (gb_refl _ _) rfl
          intro W f hW hA
          simp only [lexIn, Act.put, List.setIfInBounds_toArray, List.set_cons_zero, List.set_cons_succ]
          have e26 : f 26 = _ := hA 0 (some 26) _ rfl
          rw [e26]
          clear hA
          have own5 : W.ownsRow w.heap.size 81 3 (.slice A1 rs.length c1) rs.length (rv rs.reverse) := Hown.out.kept hW (by cases hv : Value.ownBlock _ with | none => exact .inl rfl | some q => exact .inr (by simp))
          have Hown5 := Lib.hid own5
          have Hg5 : Hid (w.grownBy W none) := gb_none Hg.out hW
          have hBW : w.heap.size ≤ W.heap.size := Hg5.out.size
          have hbx5 := HR.out W hW
          have hDW : D4 < W.heap.size := by have := hW.size; omega
          have hBs : gB < W.heap.size := by have := (Hb.out.2 (by omega)); obtain ⟨g2, o2, e2, h2, _⟩ := this; cases e2; omega
          clear e26 hW HY HR Hown Hg
          by_cases hby : byB y x < 0
          · have db : decide (byB y x < 0) = true := decide_eq_true hby
            have hxy : Beg y x := by rcases (byB_neg y x).1 hby with h | ⟨h, h3⟩; exact .inl h; exact .inr ⟨h, by omega⟩
            have HU2 : Hid (UI a b k (j + 1) (jn rs y)) := HU.out.stepB Mb.out Hy.out (beg_all Ma.out Hx.out hxy)
            clear hby hxy
            obtain ⟨hc0, hc1, hc2⟩ := HBY.out W Hg5.out
            have Hbx := Lib.hid hbx5
            have z2 : (1 : Int) ≤ ((L + 1 : Nat) : Int) := by omega
            have z3 : ((L + 1 : Nat) : Int) ≤ (cj : Int) := by omega
            have z4 : (1 : Int) ≤ (L : Int) + 1 := by omega
            have z5 : (L : Int) + 1 ≤ (cj : Int) := by omega
            have z6 : (L : Int) + 1 - 1 = (L : Int) := by omega
            have z7 : 1 ≤ cj := by omega
            clear hbx5
            rw [db]
            have Hs5 : Hid (∀ s ∈ rs, Ok s) := HU.out.may.1
            have Hoy : Hid (Ok y) := Mb.out.get Hy.out
            have hle : rs.length ≤ 1000000 := by omega
            by_cases hcj : cj = 1
            · subst hcj
              obtain rfl : L = 0 := by omega
              go_upto_region 6 with fail
              go_region_held3 (fun w' => w'.cell? ⟨gB, oB + j * 3, none⟩ = some (.int .i64 y.d) ∧ w'.cell? ⟨gB, oB + j * 3 + 1, none⟩ = some (.int .i64 y.f) ∧ w'.cell? ⟨gB, oB + j * 3 + 2, none⟩ = some (.int .i64 y.t)) (first | go_keep | exact HBY.out _ (gb_step (gb_drew Hg5.out) g2 (fun i e => .inr (Hown5.out.lt i e).1)))
                ((go_simp; go_at_call 39; refine (joined_any w.heap.size A1 rs.length c1 rs y _ (by exact Hown5.out) rfl (by exact hBW) Hs5.out Hoy.out hle).mono ?_; rintro e w1 ⟨A2, c2, rfl, own2, g2, hat2⟩))
              have Hg6 : Hid (w.grownBy w1 none) := gb_step (gb_drew Hg5.out) g2 (fun i e => .inr (Hown5.out.lt i e).1)
              have Hn6 : Hid (∀ i, Value.ownBlock (.slice A2 (jn rs y).length c2) = some i → i ≠ D4) := fun i e => (hat2 i e).elim (fun h => HDn.out i h) (fun h => by have h2 : W.heap.size ≤ i := h; omega)
              have hbx6 : At3 w1 D4 0 x := At3.kept (W := W.drew) Hbx.out hDW g2 (fun e => HDn.out D4 e.symm rfl)
              have hD6 : D4 < w1.heap.size := Nat.lt_of_lt_of_le hDW g2.size
              have Hown6 := Lib.hid own2
              have Hbx6 := Lib.hid hbx6
              clear own2 g2 hat2 hbx6 own5 Hbx
              go_wp2_with fail
              go_roundw
              case rel => exact ⟨j + 1, 0, jn rs y, A2, _, c2, _, by omega, HU2.out, rfl, Hown6.out, rfl, (fun h => absurd h (by omega)), by omega, Hn6.out, Hbx6.out, hD6, Hg6.out⟩
              case measure => simp [lenV]
            · have hc2 : ¬ cj - 1 = 0 := by omega
              have hc3 : ¬ cj = 1 := hcj
              go_upto_region 6 with fail
              go_region_held3 (fun w' => w'.cell? ⟨gB, oB + j * 3, none⟩ = some (.int .i64 y.d) ∧ w'.cell? ⟨gB, oB + j * 3 + 1, none⟩ = some (.int .i64 y.f) ∧ w'.cell? ⟨gB, oB + j * 3 + 2, none⟩ = some (.int .i64 y.t)) (first | go_keep | exact HBY.out _ (gb_step (gb_drew Hg5.out) g2 (fun i e => .inr (Hown5.out.lt i e).1)))
                ((go_simp; go_at_call 39; refine (joined_any w.heap.size A1 rs.length c1 rs y _ (by exact Hown5.out) rfl (by exact hBW) Hs5.out Hoy.out hle).mono ?_; rintro e w1 ⟨A2, c2, rfl, own2, g2, hat2⟩))
              have Hg6 : Hid (w.grownBy w1 none) := gb_step (gb_drew Hg5.out) g2 (fun i e => .inr (Hown5.out.lt i e).1)
              have Hn6 : Hid (∀ i, Value.ownBlock (.slice A2 (jn rs y).length c2) = some i → i ≠ D4) := fun i e => (hat2 i e).elim (fun h => HDn.out i h) (fun h => by have h2 : W.heap.size ≤ i := h; omega)
              have hbx6 : At3 w1 D4 0 x := At3.kept (W := W.drew) Hbx.out hDW g2 (fun e => HDn.out D4 e.symm rfl)
              have hD6 : D4 < w1.heap.size := Nat.lt_of_lt_of_le hDW g2.size
              have Hown6 := Lib.hid own2
              have Hbx6 := Lib.hid hbx6
              clear own2 g2 hat2 hbx6 own5 Hbx
              go_wp2_with fail
              go_roundw
              case rel => exact ⟨j + 1, L, jn rs y, A2, _, c2, _, by omega, HU2.out, rfl, Hown6.out, rfl, (fun _ => ⟨gB, oB, rfl, by rw [show oB + (j + 1) * 3 = oB + j * 3 + 3 by omega]⟩), by omega, Hn6.out, Hbx6.out, hD6, Hg6.out⟩
              case measure => simp [lenV]
          · have db : decide (byB y x < 0) = false := decide_eq_false hby
            have hxy : Beg x y := by
              by_cases h1 : x.d < y.d
              · exact .inl h1
              · have h2 := fun h => hby ((byB_neg y x).2 h)
                refine .inr ⟨?_, ?_⟩
                · by_cases h3 : y.d < x.d
                  · exact absurd (.inl h3) h2
                  · omega
                · by_cases h4 : x.f ≤ y.f
                  · exact h4
                  · by_cases h3 : y.d < x.d
                    · exact absurd (.inl h3) h2
                    · exact absurd (.inr ⟨by omega, by omega⟩) h2
            have HU2 : Hid (UI a b (k + 1) j (jn rs x)) := HU.out.stepA Ma.out Hx.out (beg_all Mb.out Hy.out hxy)
            obtain ⟨h0, h1, h2⟩ := hbx5
            clear hby hxy own5
            rw [db]
            have Hs5 : Hid (∀ s ∈ rs, Ok s) := HU.out.may.1
            have Hox : Hid (Ok x) := Ma.out.get Hx.out
            go_wp2_with (go_at_call 39; refine (joined_any w.heap.size A1 rs.length c1 rs x _ Hown5.out rfl hBW Hs5.out Hox.out (by omega)).mono ?_; rintro e w1 ⟨A2, c2, rfl, own2, g2, hat2⟩)
            have Hg6 : Hid (w.grownBy w1 none) := gb_step Hg5.out g2 (fun i e => .inr (Hown5.out.lt i e).1)
            have Hown6 := Lib.hid own2
            clear own2 g2 hat2
            exact ⟨⟨k + 1, j, L + 1, jn rs x, A2, _, c2, cj, by omega, hjL, by go_num, HU2.out, rfl, Hown6.out, rfl, HS.out, hLc, (fun h => absurd (jn_len rs x).2 (by rw [h]; decide)), Hg6.out⟩, by simp [intOf]; omega⟩
    · have hkn : k = n := by omega
      subst hkn
      have d1 : decide (k < k) = false := by simp
      have d2 : decide ((k : Int) < (k : Int)) = false := by simp
      have Hown := Lib.hid hown
      have Hg := Lib.hid hg
      clear hown hg hlt
      go_wp2_with fail
      have HU0 := Lib.hid HU
      clear HU d1 d2
      go_loopw [40, 5] (fun i v wr => ∃ (q : Nat) (rs : List Rn) (A1 : Option Addr) (c1 : Nat), q ≤ L ∧ i = .int .i64 q ∧ Hid (UI a b k (j + q) rs) ∧ v = .slice A1 rs.length c1 ∧ wr.ownsRow w.heap.size 81 3 (.slice A1 rs.length c1) rs.length (rv rs.reverse) ∧ Hid (rs = [] → A1 = none ∧ c1 = 0) ∧ w.grownBy wr none) (fun i _ _ => L - (intOf i).toNat)
      case atStart => exact ⟨0, rs, A1, c1, Nat.zero_le _, rfl, HU0.out.out, rfl, Hown.out, HV.out, Hg.out⟩
      case round =>
        clear Hown Hg HV HU0
        obtain ⟨q, rs, A1, c1, hq, rfl, HU, rfl, hown, HV, hg⟩ := hrel
        have hlen : rs.length ≤ 300000 := by have := HU.out.len; omega
        by_cases hql : q < L
        · have d1 : decide (q < L) = true := decide_eq_true hql
          have d2 : decide ((q : Int) < (L : Int)) = true := decide_eq_true (by omega)
          have bk : (q : Int) < (L : Int) := by omega
          obtain ⟨gB, oB, rfl, rfl⟩ := HS.out (by omega)
          obtain ⟨y, hy⟩ : ∃ y, b[j + q]? = some y := ⟨_, List.getElem?_eq_getElem (by rw [Hb.out.1]; omega)⟩
          have hat := rl_at3 (Hb.out.keep hg) hy
          rw [show oB + (j + q) * 3 = oB + j * 3 + q * 3 by omega] at hat
          obtain ⟨h0, h1, h2⟩ := hat
          have HU2 : Hid (UI a b k (j + q + 1) (jn rs y)) := HU.out.stepB Mb.out hy (by rw [drop_all (by rw [Ha.out.1]; exact Nat.le_refl _)]; intro _ h; cases h)
          have Hs5 : Hid (∀ s ∈ rs, Ok s) := HU.out.may.1
          have Hoy : Hid (Ok y) := Mb.out.get hy
          have hBW : w.heap.size ≤ wr.heap.size + 1 := by have := hg.size; omega
          have Hown := Lib.hid hown
          have Hg := Lib.hid hg
          clear hown hg hy
          go_wp2_with (go_at_call 39; refine (joined_any w.heap.size A1 rs.length c1 rs y _ (by exact Hown.out.alloc _) rfl (by simp; omega) Hs5.out Hoy.out (by omega)).mono ?_; rintro e w1 ⟨A2, c2, rfl, own2, g2, hat2⟩)
          have Hg6 : Hid (w.grownBy w1 none) := gb_step (gb_alloc Hg.out _) g2 (fun i e => .inr (Hown.out.lt i e).1)
          have Hown6 := Lib.hid own2
          clear own2 g2 hat2
          exact ⟨⟨q + 1, jn rs y, A2, c2, by omega, by go_num, HU2.out, rfl, Hown6.out, (fun h => absurd (jn_len rs y).2 (by rw [h]; decide)), Hg6.out⟩, by simp [intOf]; omega⟩
        · have hqL : q = L := by omega
          subst hqL
          have d1 : decide (q < q) = false := by simp
          have d2 : decide ((q : Int) < (q : Int)) = false := by simp
          have Hfin : Hid (rs.reverse = unionR a b) := HU.out.fin Ma.out Mb.out (by rw [Ha.out.1]; exact Nat.le_refl _) (by rw [Hb.out.1]; omega)
          obtain ⟨A3, c3, hv, hR, hc3⟩ := own_rl (l := rs.reverse) hown (by simp)
          cases hv
          have HR := Lib.hid hR
          have Hg := Lib.hid hg
          have Hc3 := Lib.hid hc3
          clear hR hown hg hc3 hql
          go_wp2_with fail
          go_ret
          have el : (unionR a b).length = rs.length := by rw [← Hfin.out, List.length_reverse]
          refine ⟨A1, c1, by rw [el]; rfl, by rw [el, ← Hfin.out]; exact HR.out, ⟨fun h => HV.out (List.eq_nil_of_length_eq_zero (by rw [← el]; exact h)), by rw [el]; exact Hc3.out⟩, Hg.out⟩
end Go.Proofs.YtbdpckphlagijaaDoor.Dt
