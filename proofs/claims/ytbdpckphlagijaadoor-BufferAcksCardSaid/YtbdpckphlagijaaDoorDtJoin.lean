/- joined: a run joined to what lies behind, in the slice's own memory. -/
import Derived.Test.YtbdpckphlagijaaDoorDtPMay
import Derived.Test.YtbdpckphlagijaaDoorDtA
import Derived.Test.YtbdpckphlagijaaDoorDtB
import Derived.Deep.AppendLies
import Derived.Laws.OwnMore
namespace Go.Proofs.YtbdpckphlagijaaDoor.Dt
open Go Go.RowKit Go.Proofs.YtbdpckphlagijaaDoor.Mm Go.Proofs.YtbdpckphlagijaaDoor.Td

theorem ints3' (x y z : Int) : ∀ u ∈ [Value.int .i64 x, .int .i64 y, .int .i64 z], u.oneCell' = true := by
  intro u hu
  simp only [List.mem_cons, List.not_mem_nil, or_false] at hu
  obtain rfl | rfl | rfl := hu <;> rfl
theorem rv_set' (l : List Rn) (r : Rn) (t : Int) : (rv (l ++ [r])).set (l.length * 3 + 2) (.int .i64 t) = rv (l ++ [⟨r.d, r.f, t⟩]) := by
  rw [rv_append, rv_append, List.set_append_right _ _ (by rw [rv_len]; omega), rv_len, show l.length * 3 + 2 - l.length * 3 = 2 by omega]; rfl
theorem news3 (w : World) (x y z : Int) (t : TypeId) : ∀ j u, [Value.int .i64 x, .int .i64 y, .int .i64 z][j]? = some u → (w.alloc (.cells #[.int .i64 x, .int .i64 y, .int .i64 z] t)).cell? ((⟨w.heap.size, 0, none⟩ : Addr).add j) = some u :=
  World.news_of_block (cs := #[.int .i64 x, .int .i64 y, .int .i64 z]) (t := t) (fr := (0, 0)) (heap_alloc_new w _)
/-- The last run of a row that the call owns. -/
theorem own_last {w : World} {B M c gO : Nat} {s : Rn} {rs : List Rn} (h : w.ownsRow B 81 3 (.slice (some ⟨gO, 0, none⟩) (M + 1) c) (M + 1) (rv (s :: rs).reverse)) (hM : rs.length = M) : At3 w gO (M * 3) s := by
  have hx : (s :: rs).reverse[M]? = some s := by rw [List.reverse_cons, List.getElem?_append_right (by simp; omega)]; simp [hM]
  obtain ⟨r0, r1, r2⟩ := rv_at _ M s hx
  exact ⟨by rw [World.ownsRow.cellAt h _ (by omega)]; exact r0, by rw [World.ownsRow.cellAt h _ (by omega)]; exact r1, by rw [World.ownsRow.cellAt h _ (by omega)]; exact r2⟩
/-- What joined leaves. -/
def Joined (B : Nat) (v : Value) (rs : List Rn) (r : Rn) (w : World) (e : Ending) (w' : World) : Prop := ∃ A' c', e = .returned (.slice A' (jn rs r).length c') ∧ w'.ownsRow B 81 3 (.slice A' (jn rs r).length c') (jn rs r).length (rv (jn rs r).reverse) ∧ w.grownBy w' v.ownBlock ∧ ∀ i, Value.ownBlock (.slice A' (jn rs r).length c') = some i → v.ownBlock = some i ∨ w.heap.size ≤ i
attribute [local go_sem] Td.upon_value Td.upon_skip Td.upon_enter Td.upon_row Td.look_tmp Td.look_const Td.look_func Td.look_global
set_option maxHeartbeats 8000000 in
set_option maxRecDepth 100000 in
theorem joined_any (B : Nat) (A : Option Addr) (N c : Nat) (rs : List Rn) (r : Rn) (w : World) (hown : w.ownsRow B 81 3 (.slice A N c) N (rv rs.reverse)) (hN : N = rs.length) (hB : B ≤ w.heap.size) (hs : ∀ s ∈ rs, Ok s) (hr : Ok r) (hle : N ≤ 1000000) :
    Calls Tryd.prog 39 #[.slice A N c, .agg #[.int .i64 r.d, .int .i64 r.f, .int .i64 r.t]] w (Joined B (.slice A N c) rs r w) := by
  obtain ⟨i0, hi0, hz0, hz1, hz2⟩ := info_parts run_inf
  have Hi0 := Lib.hid hi0
  have Hz0 := Lib.hid hz0
  have Hz1 := Lib.hid hz1
  have Hz2 := Lib.hid hz2
  have Hm : Hid (N + 1 ≤ maxLen ∧ (N + 1) * 24 ≤ 140737488355328) := by show _ ∧ _; simp only [maxLen]; omega
  clear hi0 hz0 hz1 hz2
  have Hown := Lib.hid hown
  have HN := Lib.hid hN
  have Hs := Lib.hid hs
  have Hor := Lib.hid hr
  clear hown hN hs hr
  go_enter Tryd.func39, Tryd.ntmps39
  rcases N with _ | M
  · obtain rfl : rs = [] := List.eq_nil_of_length_eq_zero HN.out.symm
    have own1 := Hown.out.alloc (.cells #[.int .i64 r.d, .int .i64 r.f, .int .i64 r.t] 81)
    clear Hown
    go_wp2_with (at_builtin; refine wpList_append_lies _ rfl (.tmp 9) (.tmp 11) 25 rfl B 81 i0 (.agg #[.int .i64 0, .int .i64 0, .int .i64 0]) 3 24 Tryd.underlying25 Hi0.out Hz0.out Hz1.out Hz2.out rfl (by decide) _ 0 _ rfl (own1.alloc _) ⟨w.heap.size + 1, 0, none⟩ 1 1 [.int .i64 r.d, .int .i64 r.f, .int .i64 r.t] rfl rfl (by have h := news3 (w.alloc (.cells #[.int .i64 r.d, .int .i64 r.f, .int .i64 r.t] 81)) r.d r.f r.t 81; rwa [World.size_alloc] at h) (ints3' _ _ _) (by decide) Hm.out.1 Hm.out.2 (by simp; omega) _ rfl ?_; intro g' cap' w' own' hgrow hat hlt')
    have Hown' := Lib.hid own'
    have Hg' : Hid (w.grownBy w' (Value.ownBlock (.slice A 0 c))) := gb_then (gb_alloc (gb_alloc (gb_refl w _) _) _) hgrow
    have Hat : Hid (∀ i, some g' = some i → Value.ownBlock (.slice A 0 c) = some i ∨ w.heap.size ≤ i) := fun i e => by
      cases e
      rcases hat with h | h
      · exact .inl h
      · exact .inr (by simp at h; omega)
    clear own' hgrow hat hlt' own1
    go_wp2_with fail
    go_ret
    exact ⟨_, _, rfl, Hown'.out, Hg'.out, Hat.out⟩
  · cases rs with
    | nil => cases HN.out
    | cons s rs =>
    have hM : rs.length = M := by have := HN.out; simp at this; omega
    obtain ⟨gO, cO, hv, hbO, hlO⟩ := World.ownsRow.form Hown.out (by omega)
    obtain ⟨rfl, rfl⟩ : A = some ⟨gO, 0, none⟩ ∧ c = cO := by cases hv; exact ⟨rfl, rfl⟩
    have HM := Lib.hid hM
    have Hos : Hid (Ok s) := Hs.out s (by simp)
    have e1 : ((M : Int) + 1 == 0) = false := by rw [beq_eq_false_iff_ne]; omega
    have e2 : IntKind.i64.wrap ((M : Int) + 1 - 1) = (M : Int) := by rw [IntKind.wrap_i64]; omega
    have e3 : IntKind.i64.wrap (M : Int) = (M : Int) := by rw [IntKind.wrap_i64]; omega
    have e4 : (M : Int) < (M : Int) + 1 := by omega
    have e5 : (((M + 1 : Nat) : Int) == 0) = false := by rw [beq_eq_false_iff_ne]; omega
    clear hv hM
    go_upto_region 4 with fail
    obtain ⟨W1, hW1⟩ : ∃ W1, w.alloc (.cells #[.int .i64 r.d, .int .i64 r.f, .int .i64 r.t] 81) = W1 := ⟨_, rfl⟩
    have hb1 : At3 W1 w.heap.size 0 r := by rw [← hW1]; exact box3 _ _ _
    have hs1 : w.heap.size < W1.heap.size := by rw [← hW1]; simp
    have own1 : W1.ownsRow B 81 3 (.slice (some ⟨gO, 0, none⟩) (M + 1) c) (M + 1) (rv (s :: rs).reverse) := by rw [← hW1]; exact Hown.out.alloc _
    have g1 : w.grownBy W1 none := by rw [← hW1]; exact gb_alloc (gb_refl _ _) _
    have HO : Hid (∀ W, W1.grownBy W none → At3 W gO (M * 3) s) := fun W hW => (own_last own1 HM.out).keep (by omega) hW
    have HR : Hid (∀ W, W1.grownBy W none → At3 W w.heap.size 0 r) := fun W hW => hb1.keep hs1 hW
    have Hown1 := Lib.hid own1
    have Hg1 := Lib.hid g1
    have hgd : w.heap.size ≠ gO := by omega
    have Hgd := Lib.hid hgd
    rw [hW1]
    clear hW1 hb1 own1 g1 Hown hgd
    generalize hD : w.heap.size = D4 at *
    have HD := Lib.hid hD
    clear hD
    obtain ⟨bv, hbv⟩ : ∃ bv : Bool, decide (Bef s r) = bv := ⟨_, rfl⟩
    have Hbv := Lib.hid hbv
    clear hbv
    apply wp_region_told (le := fun a b => a.grownBy b none) [isV _, isV _, isV _, isV _, isV _, isV _]
    case hn => rfl
    case hm => kernel_rfl
    case hB => kernel_rfl
    case ht => exact fun _ _ _ h k => gb_none h k
    case hw => exact gb_drew (gb_refl _ _)
    -- 0: run.go:49 move
    apply told_is
    · intro W f hW hE h0 K hK
      have e5 := h0 5 (by kernel_rfl)
      conv at e5 => rhs; whnf
      clear hE h0
      refine yes_of (want_free rfl) ?_
      go_simp; exact hK _ _ (gb_refl _ _) rfl
    -- 1: run.go:49 nilCheck
    apply told_is
    · intro W f hW hE h0 K hK
      have e19 : f 19 = _ := hE 0 19 _ rfl (by kernel_rfl)
      clear hE h0
      refine yes_of (want_free rfl) ?_
      go_simp; exact hK _ _ (gb_refl _ _) rfl
    -- 2: run.go:49 load
    apply told_is
    · intro W f hW hE h0 K hK
      have e20 : f 20 = _ := hE 0 20 _ rfl (by kernel_rfl)
      clear hE h0
      refine yes_of (want_free rfl) ?_
      obtain ⟨hc0, hc1, hc2⟩ := HO.out W hW
      go_simp; exact hK _ _ (gb_refl _ _) rfl
    -- 3: run.go:49 load
    apply told_is
    · intro W f hW hE h0 K hK
      have e3 := h0 3 (by kernel_rfl)
      conv at e3 => rhs; whnf
      clear hE h0
      refine yes_of (want_free rfl) ?_
      obtain ⟨hc0, hc1, hc2⟩ := HR.out W hW
      go_simp; exact hK _ _ (gb_refl _ _) rfl
    -- 4: run.go:49 call
    apply told_is
    · intro W f hW hE h0 K hK
      have e21 : f 21 = _ := hE 1 21 _ rfl (by kernel_rfl)
      have e22 : f 22 = _ := hE 0 22 _ rfl (by kernel_rfl)
      clear hE h0
      refine yes_of (want_free rfl) ?_
      go_simp
      refine (apart_any s r _ Hos.out Hor.out).mono ?_
      rintro e w1 ⟨he, g⟩
      rw [Hbv.out] at he
      subst he
      exact ⟨_, rfl, hK _ _ g.gb rfl⟩
    -- 5: run.go:49 assign
    apply told_is
    · intro W f hW hE h0 K hK
      have e23 : f 23 = _ := hE 0 23 _ rfl (by kernel_rfl)
      clear hE h0
      refine yes_of (want_free rfl) ?_
      go_simp; exact hK _ _ (gb_refl _ _) rfl
    intro W f hW hA
    simp only [lexIn, Act.put, List.setIfInBounds_toArray, List.set_cons_zero, List.set_cons_succ]
    have e18 : f 18 = _ := hA 0 (some 18) _ rfl
    rw [e18]
    clear hA
    have own5 : W.ownsRow B 81 3 (.slice (some ⟨gO, 0, none⟩) (M + 1) c) (M + 1) (rv (s :: rs).reverse) := Hown1.out.kept hW (.inr (by simp [Value.ownBlock]))
    have Hg5 : Hid (w.grownBy W none) := gb_none Hg1.out hW
    have hBW : B ≤ W.heap.size := by have := Hg5.out.size; have := HD.out; omega
    obtain ⟨o0, o1, o2⟩ := HO.out W hW
    obtain ⟨r0, r1, r2⟩ := HR.out W hW
    have hlW : gO < W.heap.size := by have := Hg1.out.size; have := hW.size; omega
    have hlD : D4 < W.heap.size := by have := hW.size; omega
    clear hW e18 Hown1 HO HR Hg1
    cases bv with
    | true =>
      have hj : jn (s :: rs) r = r :: s :: rs := if_pos (of_decide_eq_true Hbv.out)
      have HE : Hid (jn (s :: rs) r = r :: s :: rs) := hj
      clear hj
      go_wp2_with (at_builtin; refine wpList_append_lies _ rfl (.tmp 33) (.tmp 35) 25 rfl B 81 i0 (.agg #[.int .i64 0, .int .i64 0, .int .i64 0]) 3 24 Tryd.underlying25 Hi0.out Hz0.out Hz1.out Hz2.out rfl (by decide) _ (M + 1) _ rfl (own5.alloc _) ⟨W.heap.size, 0, none⟩ 1 1 [.int .i64 r.d, .int .i64 r.f, .int .i64 r.t] rfl rfl (news3 W r.d r.f r.t 81) (ints3' _ _ _) (by decide) Hm.out.1 Hm.out.2 (by simp; omega) _ rfl ?_; intro g' cap' w' own' hgrow hat hlt')
      have Hown' := Lib.hid own'
      have Hg' : Hid (w.grownBy w' (Value.ownBlock (.slice (some ⟨gO, 0, none⟩) (M + 1) c))) := gb_then (gb_alloc (gb_none (gb_refl w _) Hg5.out) _) hgrow
      have Hat : Hid (∀ i, some g' = some i → Value.ownBlock (.slice (some ⟨gO, 0, none⟩) (M + 1) c) = some i ∨ w.heap.size ≤ i) := fun i e => by
        cases e
        rcases hat with h | h
        · exact .inl h
        · exact .inr (by simp at h; have := Hg5.out.size; omega)
      clear own' hgrow hat hlt' own5
      go_wp2_with fail
      go_ret
      unfold Joined
      rw [HE.out]
      have el : (r :: s :: rs).length = M + 1 + 1 := by simp [HM.out]
      have er : rv (r :: s :: rs).reverse = rv (s :: rs).reverse ++ [.int .i64 r.d, .int .i64 r.f, .int .i64 r.t] := by rw [List.reverse_cons (a := r), rv_append]; rfl
      rw [el, er]
      exact ⟨_, _, rfl, Hown'.out, Hg'.out, Hat.out⟩
    | false =>
      have hor := Hor.out
      have hos := Hos.out
      obtain ⟨_, _, q3, q4, q5⟩ := hor
      obtain ⟨_, _, p3, p4, p5⟩ := hos
      have z1 : IntKind.i64.wrap (r.f - s.t) = r.f - s.t := by rw [IntKind.wrap_i64]; omega
      have HE : Hid (jn (s :: rs) r = ⟨s.d, s.f, if s.t < r.t then r.t else s.t⟩ :: rs) := if_neg (of_decide_eq_false Hbv.out)
      have fz := World.ownsRow.frozenAt own5 (M * 3 + 2)
      clear q3 q4 q5 p3 p4 p5
      by_cases ht : s.t < r.t
      · have dt : decide (s.t < r.t) = true := decide_eq_true ht
        have et : (if s.t < r.t then r.t else s.t) = r.t := if_pos ht
        rw [et] at HE
        have Hst : Hid (∀ q, ((W.drewN q).setCell ⟨gO, M * 3 + 2, none⟩ (.int .i64 (r.t))).ownsRow B 81 3 (.slice (some ⟨gO, 0, none⟩) (M + 1) c) (M + 1) ((rv (s :: rs).reverse).set (M * 3 + 2) (.int .i64 (r.t))) ∧ W.grownBy ((W.drewN q).setCell ⟨gO, M * 3 + 2, none⟩ (.int .i64 (r.t))) (some gO)) := fun q => by
          have own6 : (W.drewN q).ownsRow B 81 3 (.slice (some ⟨gO, 0, none⟩) (M + 1) c) (M + 1) (rv (s :: rs).reverse) := own5
          exact ⟨(World.ownsRow.stored own6 (M * 3 + 2) (.int .i64 (r.t))).1, gb_then (gb_drewN (gb_refl W _) q) (World.ownsRow.stored own6 (M * 3 + 2) (.int .i64 (r.t))).2⟩
        have Hset : Hid ((rv (s :: rs).reverse).set (M * 3 + 2) (.int .i64 (r.t)) = rv (⟨s.d, s.f, r.t⟩ :: rs).reverse) := by
          show _ = _
          simp only [List.reverse_cons]
          rw [← HM.out, show rs.length = rs.reverse.length by simp]
          exact rv_set' rs.reverse s _
        have Hl : Hid ((⟨s.d, s.f, r.t⟩ :: rs : List Rn).length = M + 1) := by show _ = _; rw [List.length_cons, HM.out]
        clear ht et own5
        by_cases e9 : r.f - s.t = 1
        · have d9 : (r.f - s.t == 1) = true := by rw [e9]; rfl
          clear e9
          go_wp2_with fail
          go_quiet (fail)
          go_wp2_with fail
          refine wp_region_quiet_tail 10 (by kernel_rfl) (by kernel_rfl) ?_
          simp only [List.take_succ_cons, List.take_zero, List.drop_succ_cons, List.drop_zero]
          iterate 10 (go_big_quiet_step (fail))
          all_goals
            refine wpQuiet_nil ?_
            go_wp2_with fail
          all_goals
            have hdt := of_decide_eq_true dt
            first
            | (exfalso; omega)
            | (go_ret
               unfold Joined
               rw [HE.out, Hl.out, ← Hset.out]
               exact ⟨_, _, rfl, (Hst.out _).1, gb_then (gb_none (gb_refl w _) Hg5.out) (Hst.out _).2, fun i e => .inl e⟩)
        · have d9 : (r.f - s.t == 1) = false := by rw [beq_eq_false_iff_ne]; exact e9
          clear e9
          go_wp2_with fail
          go_quiet (fail)
          go_wp2_with fail
          refine wp_region_quiet_tail 10 (by kernel_rfl) (by kernel_rfl) ?_
          simp only [List.take_succ_cons, List.take_zero, List.drop_succ_cons, List.drop_zero]
          iterate 10 (go_big_quiet_step (fail))
          all_goals
            refine wpQuiet_nil ?_
            go_wp2_with fail
          all_goals
            have hdt := of_decide_eq_true dt
            first
            | (exfalso; omega)
            | (go_ret
               unfold Joined
               rw [HE.out, Hl.out, ← Hset.out]
               exact ⟨_, _, rfl, (Hst.out _).1, gb_then (gb_none (gb_refl w _) Hg5.out) (Hst.out _).2, fun i e => .inl e⟩)
      · have dt : decide (s.t < r.t) = false := decide_eq_false ht
        have et : (if s.t < r.t then r.t else s.t) = s.t := if_neg ht
        rw [et] at HE
        have Hst : Hid (∀ q, ((W.drewN q).setCell ⟨gO, M * 3 + 2, none⟩ (.int .i64 (s.t))).ownsRow B 81 3 (.slice (some ⟨gO, 0, none⟩) (M + 1) c) (M + 1) ((rv (s :: rs).reverse).set (M * 3 + 2) (.int .i64 (s.t))) ∧ W.grownBy ((W.drewN q).setCell ⟨gO, M * 3 + 2, none⟩ (.int .i64 (s.t))) (some gO)) := fun q => by
          have own6 : (W.drewN q).ownsRow B 81 3 (.slice (some ⟨gO, 0, none⟩) (M + 1) c) (M + 1) (rv (s :: rs).reverse) := own5
          exact ⟨(World.ownsRow.stored own6 (M * 3 + 2) (.int .i64 (s.t))).1, gb_then (gb_drewN (gb_refl W _) q) (World.ownsRow.stored own6 (M * 3 + 2) (.int .i64 (s.t))).2⟩
        have Hset : Hid ((rv (s :: rs).reverse).set (M * 3 + 2) (.int .i64 (s.t)) = rv (⟨s.d, s.f, s.t⟩ :: rs).reverse) := by
          show _ = _
          simp only [List.reverse_cons]
          rw [← HM.out, show rs.length = rs.reverse.length by simp]
          exact rv_set' rs.reverse s _
        have Hl : Hid ((⟨s.d, s.f, s.t⟩ :: rs : List Rn).length = M + 1) := by show _ = _; rw [List.length_cons, HM.out]
        clear ht et own5
        by_cases e9 : r.f - s.t = 1
        · have d9 : (r.f - s.t == 1) = true := by rw [e9]; rfl
          clear e9
          go_wp2_with fail
          go_quiet (fail)
          go_wp2_with fail
          refine wp_region_quiet_tail 10 (by kernel_rfl) (by kernel_rfl) ?_
          simp only [List.take_succ_cons, List.take_zero, List.drop_succ_cons, List.drop_zero]
          iterate 10 (go_big_quiet_step (fail))
          all_goals
            refine wpQuiet_nil ?_
            go_wp2_with fail
          all_goals
            have hdt := of_decide_eq_false dt
            first
            | (exfalso; omega)
            | (go_ret
               unfold Joined
               rw [HE.out, Hl.out, ← Hset.out]
               exact ⟨_, _, rfl, (Hst.out _).1, gb_then (gb_none (gb_refl w _) Hg5.out) (Hst.out _).2, fun i e => .inl e⟩)
        · have d9 : (r.f - s.t == 1) = false := by rw [beq_eq_false_iff_ne]; exact e9
          clear e9
          go_wp2_with fail
          go_quiet (fail)
          go_wp2_with fail
          refine wp_region_quiet_tail 10 (by kernel_rfl) (by kernel_rfl) ?_
          simp only [List.take_succ_cons, List.take_zero, List.drop_succ_cons, List.drop_zero]
          iterate 10 (go_big_quiet_step (fail))
          all_goals
            refine wpQuiet_nil ?_
            go_wp2_with fail
          all_goals
            have hdt := of_decide_eq_false dt
            first
            | (exfalso; omega)
            | (go_ret
               unfold Joined
               rw [HE.out, Hl.out, ← Hset.out]
               exact ⟨_, _, rfl, (Hst.out _).1, gb_then (gb_none (gb_refl w _) Hg5.out) (Hst.out _).2, fun i e => .inl e⟩)
end Go.Proofs.YtbdpckphlagijaaDoor.Dt
