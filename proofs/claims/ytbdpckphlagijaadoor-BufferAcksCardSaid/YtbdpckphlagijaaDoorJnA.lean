/- Two states together, as the program goes through them: the merge's invariant with what has been passed by. No program. whose: who has the fact that comes next. left: the facts of two states that stay. The program's Join and Le. -/
import Derived.Test.YtbdpckphlagijaaDoorFtC
import Derived.Test.YtbdpckphlagijaaDoorFtB
import Derived.Test.YtbdpckphlagijaaDoorFtA
import Derived.Test.YtbdpckphlagijaaDoorTdA
import Derived.Test.YtbdpckphlagijaaDoorFtJoinW
import Derived.Test.YtbdpckphlagijaaDoorDtE
import Derived.Test.YtbdpckphlagijaaDoorDtF
import Derived.Deep.CutBlock
import Derived.Deep.RegionHeld3
import Derived.Test.YtbdpckphlagijaaDoorFtMake
import Derived.Test.YtbdpckphlagijaaDoorFtD
set_option linter.unusedVariables false
namespace Go.Proofs.YtbdpckphlagijaaDoor.Dt

/-- As far as i facts of one and k of the other have been looked at; what was passed of the other one is ahead of all that is left of the first. -/
structure JL (s t : St) (i k : Nat) (L : List Fc) : Prop where
  ji : JI s t i k L
  past : ∀ g ∈ t.facts.take k, ∀ f ∈ s.facts.drop i, FLt g f
theorem jl_nil (s t : St) : JL s t 0 0 [] := ⟨ji_nil s t, fun g h => by simp at h⟩
section
variable {s t : St} {i k : Nat} {L : List Fc} {x y : Fc}
theorem drop_head (hs : Sor s.facts) (hx : s.facts[i]? = some x) : ∀ f ∈ s.facts.drop (i + 1), FLt x f := by
  have h := hs.drop i
  rw [fdrop_eq hx] at h
  exact h.head
/-- No fact of the other one has the dot of a fact that stands ahead of all that is left of it. -/
theorem JL.alone (h : JL s t i k L) (hs : SS s) (ht : SS t) (hx : s.facts[i]? = some x) (hlt : ∀ y, t.facts[k]? = some y → FLt x y) : atB t.facts x.d x.n = false := by
  rw [Bool.eq_false_iff, ne_eq, atB_iff]
  rintro ⟨g, hg, e1, e2⟩
  rw [← List.take_append_drop k t.facts] at hg
  rcases List.mem_append.1 hg with h1 | h1
  · exact (h.past g h1 x (by rw [fdrop_eq hx]; simp)).irr ⟨e1, e2⟩
  · cases hy : t.facts[k]? with
    | none => rw [List.drop_eq_nil_of_le (List.getElem?_eq_none_iff.1 hy)] at h1; cases h1
    | some y =>
      rw [fdrop_eq hy] at h1
      rcases List.mem_cons.1 h1 with e | h2
      · subst e; exact (hlt _ hy).irr ⟨e1.symm, e2.symm⟩
      · exact ((hlt _ hy).trans (drop_head ht.2.2 hy g h2)).irr ⟨e1.symm, e2.symm⟩
theorem JL.stepA (h : JL s t i k L) (hs : SS s) (ht : SS t) (hx : s.facts[i]? = some x) (hlt : ∀ y, t.facts[k]? = some y → FLt x y) : JL s t (i + 1) k (if hasB t.seen x.d x.n then L else L ++ [x]) := by
  have ha := h.alone hs ht hx hlt
  have hp : ∀ g ∈ t.facts.take k, ∀ f ∈ s.facts.drop (i + 1), FLt g f := fun g hg f hf => h.past g hg f (by rw [fdrop_eq hx]; simp [hf])
  cases hb : hasB t.seen x.d x.n with
  | true => exact ⟨h.ji.skipA hx (by unfold stayA; rw [hb, ha]; rfl), hp⟩
  | false => exact ⟨h.ji.a_ hs ht hx (fun y hy hl => (hlt y hy).asym hl) (by unfold stayA; rw [hb]; rfl), hp⟩
theorem JL.stepB (h : JL s t i k L) (hs : SS s) (ht : SS t) (hy : t.facts[k]? = some y) (hlt : ∀ x, s.facts[i]? = some x → FLt y x) : JL s t i (k + 1) (if hasB s.seen y.d y.n then L else L ++ [y]) := by
  have hp : ∀ g ∈ t.facts.take (k + 1), ∀ f ∈ s.facts.drop i, FLt g f := fun g hg f hf => by
    rw [ftake_more hy] at hg
    rcases List.mem_append.1 hg with h1 | h1
    · exact h.past g h1 f hf
    · rw [List.mem_singleton.1 h1]
      cases hx : s.facts[i]? with
      | none => rw [List.drop_eq_nil_of_le (List.getElem?_eq_none_iff.1 hx)] at hf; cases hf
      | some x =>
        rw [fdrop_eq hx] at hf
        rcases List.mem_cons.1 hf with e | h2
        · subst e; exact hlt _ hx
        · exact (hlt _ hx).trans (drop_head hs.2.2 hx f h2)
  cases hb : hasB s.seen y.d y.n with
  | true => exact ⟨h.ji.skipB hy (by unfold stayB; rw [hb]; rfl), hp⟩
  | false => exact ⟨h.ji.b_ hs ht hy hlt (by unfold stayB; rw [hb]; rfl), hp⟩
theorem JL.both (h : JL s t i k L) (hs : SS s) (ht : SS t) (hx : s.facts[i]? = some x) (hy : t.facts[k]? = some y) (hd : x.d = y.d ∧ x.n = y.n) : JL s t (i + 1) (k + 1) (L ++ [x]) := by
  have hat : atB t.facts x.d x.n = true := (atB_iff _ _ _).2 ⟨y, List.mem_of_getElem? hy, hd.1.symm, hd.2.symm⟩
  have hse : hasB s.seen y.d y.n = true := (hasB_iff _ _ _).2 (by rw [← hd.1, ← hd.2]; exact hs.2.1 x (List.mem_of_getElem? hx))
  refine ⟨(h.ji.a_ hs ht hx (fun y2 hy2 hl => ?_) (by unfold stayA; rw [hat, Bool.or_true])).skipB hy (by unfold stayB; rw [hse]; rfl), fun g hg f hf => ?_⟩
  · rw [hy] at hy2; cases hy2
    exact hl.irr ⟨hd.1.symm, hd.2.symm⟩
  · have hxf := drop_head hs.2.2 hx f hf
    rw [ftake_more hy] at hg
    rcases List.mem_append.1 hg with h1 | h1
    · exact h.past g h1 f (by rw [fdrop_eq hx]; simp [hf])
    · rw [List.mem_singleton.1 h1]
      unfold FLt at *
      rw [← hd.1, ← hd.2]; exact hxf
end
/-- Whose fact comes next. -/
def whoI (x y : List Fc) : Int := match x, y with
  | [], _ => 1
  | _ :: _, [] => -1
  | x :: _, y :: _ => cmpD x.d x.n y.d y.n
end Go.Proofs.YtbdpckphlagijaaDoor.Dt

namespace Go.Proofs.YtbdpckphlagijaaDoor.Dt
open Go Go.RowKit Go.Proofs.YtbdpckphlagijaaDoor.Mm Go.Proofs.YtbdpckphlagijaaDoor.Td

theorem fl_head {w : World} {A : Option Addr} {L : Nat} {x : Fc} {l : List Fc} (h : FL w A (L + 1) (x :: l)) : ∃ g o, A = some ⟨g, o, none⟩ ∧ g < w.heap.size ∧ ∀ W, w.grownBy W none → At6 W g o x := by
  obtain ⟨g, o, e, hg, hc⟩ := h.2 (Nat.succ_pos _)
  have h0 := hc 0 x rfl
  rw [Nat.zero_mul, Nat.add_zero] at h0
  exact ⟨g, o, e, hg, fun W hW => h0.keep hg hW⟩
theorem fl_tail {w : World} {g o L : Nat} {x : Fc} {l : List Fc} (h : FL w (some ⟨g, o, none⟩) (L + 1) (x :: l)) : FL w (some ⟨g, o + 6, none⟩) L l := by
  refine ⟨by have := h.1; simp at this; exact this, fun _ => ?_⟩
  obtain ⟨g', o', e, hg, hc⟩ := h.2 (Nat.succ_pos _)
  cases e
  refine ⟨_, _, rfl, hg, fun i y hy => ?_⟩
  have := hc (i + 1) y (by simpa using hy)
  rwa [show o + (i + 1) * 6 = o + 6 + i * 6 by omega] at this
theorem fl_zero {w : World} {A : Option Addr} {x : Fc} {l : List Fc} (h : FL w A (0 + 1) (x :: l)) (A' : Option Addr) : FL w A' 0 l := by
  obtain rfl : l = [] := by have := h.1; simpa using this
  exact FL.none _ _
attribute [local go_sem] Td.upon_value Td.upon_skip Td.upon_enter Td.upon_row Td.look_tmp Td.look_const Td.look_func Td.look_global
set_option maxHeartbeats 8000000 in
set_option maxRecDepth 100000 in
theorem whose_any (A B : Option Addr) (n c m d : Nat) (x y : List Fc) (w : World) (hx : FL w A n x) (hy : FL w B m y) :
    Calls Tryd.prog 40 #[.slice A n c, .slice B m d] w fun e w' => e = .returned (.int .i64 (whoI x y)) ∧ w.grownBy w' none := by
  cases x with
  | nil =>
    obtain rfl : n = 0 := by have := hx.1; simp at this; omega
    clear hx hy
    go_enter Tryd.func40, Tryd.ntmps40
    go_wp2_with fail
    go_ret
    exact ⟨rfl, gb_refl _ _⟩
  | cons x xs =>
    obtain ⟨L, rfl⟩ : ∃ L, n = L + 1 := ⟨n - 1, by have := hx.1; simp at this; omega⟩
    have e1 : (((L + 1 : Nat) : Int) == 0) = false := by rw [beq_eq_false_iff_ne]; omega
    have e2 : ((L : Int) + 1 == 0) = false := by rw [beq_eq_false_iff_ne]; omega
    cases y with
    | nil =>
      obtain rfl : m = 0 := by have := hy.1; simp at this; omega
      clear hx hy
      go_enter Tryd.func40, Tryd.ntmps40
      go_wp2_with fail
      go_ret
      exact ⟨rfl, gb_refl _ _⟩
    | cons y ys =>
      obtain ⟨M, rfl⟩ : ∃ M, m = M + 1 := ⟨m - 1, by have := hy.1; simp at this; omega⟩
      have e3 : (((M + 1 : Nat) : Int) == 0) = false := by rw [beq_eq_false_iff_ne]; omega
      have e4 : ((M : Int) + 1 == 0) = false := by rw [beq_eq_false_iff_ne]; omega
      obtain ⟨g, o, rfl, _, hX⟩ := fl_head hx
      obtain ⟨g', o', rfl, _, hY⟩ := fl_head hy
      obtain ⟨cv, hcv⟩ : ∃ cv, cmpD x.d x.n y.d y.n = cv := ⟨_, rfl⟩
      have HC := Lib.hid hcv
      have HX := Lib.hid hX
      have HY := Lib.hid hY
      have HBn : Hid ((0 : Int) < ((L + 1 : Nat) : Int) ∧ (0 : Int) < (L : Int) + 1 ∧ 0 < L + 1) := ⟨by omega, by omega, by omega⟩
      have HBm : Hid ((0 : Int) < ((M + 1 : Nat) : Int) ∧ (0 : Int) < (M : Int) + 1 ∧ 0 < M + 1) := ⟨by omega, by omega, by omega⟩
      show Calls _ _ _ _ fun e w' => e = .returned (.int .i64 (cmpD x.d x.n y.d y.n)) ∧ _
      rw [hcv]
      clear hcv hX hY hx hy
      go_enter Tryd.func40, Tryd.ntmps40
      go_upto_region 5 with fail
      clear e1 e2 e3 e4
      apply wp_region_told (le := fun a b => a.grownBy b none) [isV _, isV _, isV _, isV _, isV _, isV _, isV _, isV _, isV _, isV _]
      case hn => rfl
      case hm => kernel_rfl
      case hB => kernel_rfl
      case ht => exact fun _ _ _ h k => gb_none h k
      case hw => exact gb_drew (gb_refl _ _)
      -- 0: join.go:79 move
      apply told_is
      · intro W f hW hE h0 K hK
        have e0 := h0 0 (by kernel_rfl)
        conv at e0 => rhs; whnf
        clear hE h0
        refine yes_of (want_free rfl) ?_
        go_simp; exact hK _ _ (gb_refl _ _) rfl
      -- 1: join.go:79 indexAddr
      apply told_is
      · intro W f hW hE h0 K hK
        have e13 : f 13 = _ := hE 0 13 _ rfl (by kernel_rfl)
        clear hE h0
        refine yes_of (want_free rfl) ?_
        obtain ⟨b0, b1, b2⟩ := HBn.out
        go_simp; exact hK _ _ (gb_refl _ _) rfl
      -- 2: join.go:79 fieldAddr
      apply told_is
      · intro W f hW hE h0 K hK
        have e14 : f 14 = _ := hE 0 14 _ rfl (by kernel_rfl)
        clear hE h0
        refine yes_of (want_free rfl) ?_
        go_simp; exact hK _ _ (gb_refl _ _) rfl
      -- 3: join.go:79 load
      apply told_is
      · intro W f hW hE h0 K hK
        have e15 : f 15 = _ := hE 0 15 _ rfl (by kernel_rfl)
        clear hE h0
        refine yes_of (want_free rfl) ?_
        obtain ⟨q0, q1, q2, q3, q4, q5⟩ := HX.out W hW
        go_simp; exact hK _ _ (gb_refl _ _) rfl
      -- 4: join.go:79 move
      apply told_is
      · intro W f hW hE h0 K hK
        have e1 := h0 1 (by kernel_rfl)
        conv at e1 => rhs; whnf
        clear hE h0
        refine yes_of (want_free rfl) ?_
        go_simp; exact hK _ _ (gb_refl _ _) rfl
      -- 5: join.go:79 indexAddr
      apply told_is
      · intro W f hW hE h0 K hK
        have e17 : f 17 = _ := hE 0 17 _ rfl (by kernel_rfl)
        clear hE h0
        refine yes_of (want_free rfl) ?_
        obtain ⟨b0, b1, b2⟩ := HBm.out
        go_simp; exact hK _ _ (gb_refl _ _) rfl
      -- 6: join.go:79 fieldAddr
      apply told_is
      · intro W f hW hE h0 K hK
        have e18 : f 18 = _ := hE 0 18 _ rfl (by kernel_rfl)
        clear hE h0
        refine yes_of (want_free rfl) ?_
        go_simp; exact hK _ _ (gb_refl _ _) rfl
      -- 7: join.go:79 load
      apply told_is
      · intro W f hW hE h0 K hK
        have e19 : f 19 = _ := hE 0 19 _ rfl (by kernel_rfl)
        clear hE h0
        refine yes_of (want_free rfl) ?_
        obtain ⟨q0, q1, q2, q3, q4, q5⟩ := HY.out W hW
        go_simp; exact hK _ _ (gb_refl _ _) rfl
      -- 8: join.go:79 call
      apply told_is
      · intro W f hW hE h0 K hK
        have e16 : f 16 = _ := hE 4 16 _ rfl (by kernel_rfl)
        have e20 : f 20 = _ := hE 0 20 _ rfl (by kernel_rfl)
        clear hE h0
        refine yes_of (want_free rfl) ?_
        go_simp
        refine (pCmp_any _ _ _ _ _).mono ?_
        rintro e w1' ⟨he, g⟩; rw [HC.out] at he; subst he
        exact ⟨_, rfl, hK _ _ g.gb rfl⟩
      -- 9: join.go:79 assign
      apply told_is
      · intro W f hW hE h0 K hK
        have e21 : f 21 = _ := hE 0 21 _ rfl (by kernel_rfl)
        clear hE h0
        refine yes_of (want_free rfl) ?_
        go_simp; exact hK _ _ (gb_refl _ _) rfl
      intro W f hW hA
      simp only [lexIn, Act.put, List.setIfInBounds_toArray, List.set_cons_zero, List.set_cons_succ]
      have e4 : f 4 = _ := hA 0 (some 4) _ rfl
      rw [e4]
      clear hA
      go_wp2_with fail
      go_ret
      exact ⟨rfl, hW⟩
end Go.Proofs.YtbdpckphlagijaaDoor.Dt

namespace Go.Proofs.YtbdpckphlagijaaDoor.Dt
open Go Go.RowKit Go.Proofs.YtbdpckphlagijaaDoor.Mm Go.Proofs.YtbdpckphlagijaaDoor.Td

/-- A block of the call's own is written all over. -/
theorem gb_six {a W : World} {D : Nat} {x : Fc} (h : a.grownBy W none) (hD : a.heap.size ≤ D) : a.grownBy ((((((W.setCell ⟨D, 0, none⟩ (.int .i64 x.d)).setCell ⟨D, 1, none⟩ (.int .i64 x.n)).setCell ⟨D, 2, none⟩ (.string x.key)).setCell ⟨D, 3, none⟩ (.int .i64 x.kind)).setCell ⟨D, 4, none⟩ (.string x.item)).setCell ⟨D, 5, none⟩ (.int .i64 x.v)) none :=
  gb_new (gb_new (gb_new (gb_new (gb_new (gb_new h (gb_set1 _ _ _ _) hD) (gb_set1 _ _ _ _) hD) (gb_set1 _ _ _ _) hD) (gb_set1 _ _ _ _) hD) (gb_set1 _ _ _ _) hD) (gb_set1 _ _ _ _) hD
theorem gb_sixD {W : World} {D : Nat} {x : Fc} : W.grownBy ((((((W.setCell ⟨D, 0, none⟩ (.int .i64 x.d)).setCell ⟨D, 1, none⟩ (.int .i64 x.n)).setCell ⟨D, 2, none⟩ (.string x.key)).setCell ⟨D, 3, none⟩ (.int .i64 x.kind)).setCell ⟨D, 4, none⟩ (.string x.item)).setCell ⟨D, 5, none⟩ (.int .i64 x.v)) (some D) :=
  gb_then (gb_then (gb_then (gb_then (gb_then (gb_set1 _ _ _ _) (gb_set1 _ _ _ _)) (gb_set1 _ _ _ _)) (gb_set1 _ _ _ _)) (gb_set1 _ _ _ _)) (gb_set1 _ _ _ _)
theorem row_six {W : World} {D : Nat} {t : TypeId} {x : Fc} {a b c d e f : Value} (h : Row W D t #[a, b, c, d, e, f]) : Row ((((((W.setCell ⟨D, 0, none⟩ (.int .i64 x.d)).setCell ⟨D, 1, none⟩ (.int .i64 x.n)).setCell ⟨D, 2, none⟩ (.string x.key)).setCell ⟨D, 3, none⟩ (.int .i64 x.kind)).setCell ⟨D, 4, none⟩ (.string x.item)).setCell ⟨D, 5, none⟩ (.int .i64 x.v)) D t #[.int .i64 x.d, .int .i64 x.n, .string x.key, .int .i64 x.kind, .string x.item, .int .i64 x.v] :=
  (((((h.set_ 0 (.int .i64 x.d)).set_ 1 (.int .i64 x.n)).set_ 2 (.string x.key)).set_ 3 (.int .i64 x.kind)).set_ 4 (.string x.item)).set_ 5 (.int .i64 x.v)
attribute [local go_sem] Td.upon_value Td.upon_skip Td.upon_enter Td.upon_row Td.look_tmp Td.look_const Td.look_func Td.look_global
set_option maxHeartbeats 80000000 in
set_option maxRecDepth 100000 in
theorem left_any (A B A' B' : Option Addr) (p c n d q c' m d' : Nat) (s t : St) (w : World) (hs : SL w A p B n s) (ht : SL w A' q B' m t) (ss : SS s) (st : SS t) (hp : p ≤ 10000) (hn : n ≤ 10000) (hq : q ≤ 10000) (hm : m ≤ 10000) (hnd : n ≤ d) (hmd : m ≤ d') :
    Calls Tryd.prog 36 #[.agg #[.slice A p c, .slice B n d], .agg #[.slice A' q c', .slice B' m d']] w (Facts (joinF s t) w) := by
  obtain ⟨W0, hW0⟩ : ∃ W0, (w.alloc (.cells #[.slice A p c, .slice B n d] 28)).alloc (.cells #[.slice A' q c', .slice B' m d'] 28) = W0 := ⟨_, rfl⟩
  obtain ⟨h0, hh0⟩ : ∃ h0, w.heap.size = h0 := ⟨_, rfl⟩
  have G0 : w.grownBy W0 none := by rw [← hW0]; exact gb_alloc (gb_alloc (gb_refl _ _) _) _
  have hr0 : Row W0 h0 28 #[.slice A p c, .slice B n d] := by rw [← hW0, ← hh0]; exact (Row.new _ _ _).alloc _
  have hr1 : Row W0 (h0 + 1) 28 #[.slice A' q c', .slice B' m d'] := by
    rw [← hW0, ← hh0]
    have h := Row.new (w.alloc (.cells #[.slice A p c, .slice B n d] 28)) 28 #[.slice A' q c', .slice B' m d']
    rwa [World.size_alloc] at h
  have HC : Hid (∀ W, W0.grownBy W none → W.cell? ⟨h0, 0, none⟩ = some (.slice A p c) ∧ W.cell? ⟨h0, 1, none⟩ = some (.slice B n d) ∧ W.cell? ⟨h0 + 1, 0, none⟩ = some (.slice A' q c') ∧ W.cell? ⟨h0 + 1, 1, none⟩ = some (.slice B' m d')) :=
    fun W hW => ⟨(hr0.kept hW (by simp)).at_ (i := 0) rfl, (hr0.kept hW (by simp)).at_ (i := 1) rfl, (hr1.kept hW (by simp)).at_ (i := 0) rfl, (hr1.kept hW (by simp)).at_ (i := 1) rfl⟩
  have Hs := Lib.hid (hs.keep G0)
  have Ht := Lib.hid (ht.keep G0)
  have HG := Lib.hid G0
  have HSS : Hid (SS s ∧ SS t) := ⟨ss, st⟩
  have Hnd : Hid (n ≤ d ∧ m ≤ d' ∧ p ≤ 10000 ∧ n ≤ 10000 ∧ q ≤ 10000 ∧ m ≤ 10000) := ⟨hnd, hmd, hp, hn, hq, hm⟩
  have HFx : Hid (FL W0 B n (s.facts.drop 0)) := Hs.out.2
  have HFy : Hid (FL W0 B' m (t.facts.drop 0)) := Ht.out.2
  obtain ⟨i0, hi0, hz0, hz1, hz2⟩ := info_parts6 fact_inf
  have Hi0 := Lib.hid hi0
  have Hz0 := Lib.hid hz0
  have Hz1 := Lib.hid hz1
  have Hz2 := Lib.hid hz2
  obtain ⟨ob, hob⟩ : ∃ ob, W0.heap.size = ob := ⟨_, rfl⟩
  have Hob := Lib.hid hob
  clear hr0 hr1 hs ht ss st G0 hi0 hz0 hz1 hz2 hob hnd hmd
  go_enter Tryd.func36, Tryd.ntmps36
  go_upto_region 1 with fail
  clear hW0 hh0
  go_upto_region 2 with fail
  apply wp_region_told (le := fun a b => a.grownBy b none) [isV _, isV _, isV _, isV _, isV _, isV _]
  case hn => rfl
  case hm => kernel_rfl
  case hB => kernel_rfl
  case ht => exact fun _ _ _ h k => gb_none h k
  case hw => exact gb_drew (gb_refl _ _)
  -- 0: join.go:47 fieldAddr
  apply told_is
  · intro W f hW hE h0 K hK
    have e2 := h0 2 (by kernel_rfl)
    conv at e2 => rhs; whnf
    clear hE h0
    refine yes_of (want_free rfl) ?_
    go_simp; exact hK _ _ (gb_refl _ _) rfl
  -- 1: join.go:47 load
  apply told_is
  · intro W f hW hE h0 K hK
    have e10 : f 10 = _ := hE 0 10 _ rfl (by kernel_rfl)
    clear hE h0
    refine yes_of (want_free rfl) ?_
    obtain ⟨z0, z1, z2, z3⟩ := HC.out W hW
    go_simp; exact hK _ _ (gb_refl _ _) rfl
  -- 2: join.go:47 fieldAddr
  apply told_is
  · intro W f hW hE h0 K hK
    have e3 := h0 3 (by kernel_rfl)
    conv at e3 => rhs; whnf
    clear hE h0
    refine yes_of (want_free rfl) ?_
    go_simp; exact hK _ _ (gb_refl _ _) rfl
  -- 3: join.go:47 load
  apply told_is
  · intro W f hW hE h0 K hK
    have e12 : f 12 = _ := hE 0 12 _ rfl (by kernel_rfl)
    clear hE h0
    refine yes_of (want_free rfl) ?_
    obtain ⟨z0, z1, z2, z3⟩ := HC.out W hW
    go_simp; exact hK _ _ (gb_refl _ _) rfl
  -- 4: join.go:47 assign
  apply told_is
  · intro W f hW hE h0 K hK
    have e11 : f 11 = _ := hE 2 11 _ rfl (by kernel_rfl)
    clear hE h0
    refine yes_of (want_free rfl) ?_
    go_simp; exact hK _ _ (gb_refl _ _) rfl
  -- 5: join.go:47 assign
  apply told_is
  · intro W f hW hE h0 K hK
    have e13 : f 13 = _ := hE 1 13 _ rfl (by kernel_rfl)
    clear hE h0
    refine yes_of (want_free rfl) ?_
    go_simp; exact hK _ _ (gb_refl _ _) rfl
  intro W f hW hA
  simp only [lexIn, Act.put, List.setIfInBounds_toArray, List.set_cons_zero, List.set_cons_succ]
  have e6 : f 6 = _ := hA 1 (some 6) _ rfl
  rw [e6]
  have e7 : f 7 = _ := hA 0 (some 7) _ rfl
  rw [e7]
  clear hA
  have Hg0 : Hid (W0.grownBy W none) := hW
  clear hW
  go_wp2_with fail
  go_loopw [5, 6, 7] (fun ov xv yv wr => ∃ (iq kq Lx Ly N : Nat) (L : List Fc) (Ax Ay : Option Addr) (cx cy : Nat), iq + Lx = n ∧ kq + Ly = m ∧ xv = .slice Ax Lx cx ∧ yv = .slice Ay Ly cy ∧ Lx ≤ cx ∧ Ly ≤ cy ∧ Hid (FL W0 Ax Lx (s.facts.drop iq)) ∧ Hid (FL W0 Ay Ly (t.facts.drop kq)) ∧ Hid (JL s t iq kq L) ∧ Hid (L.length = N ∧ N ≤ iq + kq) ∧ wr.ownsRow ob 63 6 ov N (fv L) ∧ W0.grownBy wr none) (fun _ xv yv _ => lenV xv + lenV yv)
  case atStart => exact ⟨0, 0, n, m, 0, [], B, B', d, d', Nat.zero_add _, Nat.zero_add _, rfl, rfl, Hnd.out.1, Hnd.out.2.1, HFx.out, HFy.out, jl_nil s t, ⟨rfl, Nat.zero_le _⟩, World.ownsRow_nil _ _ _ _, Hg0.out⟩
  case round =>
    obtain ⟨iq, kq, Lx, Ly, N, L, Ax, Ay, cx, cy, hix, hky, rfl, rfl, hcx, hcy, HX, HY, HJ, HN, hown, hg⟩ := hrel
    obtain ⟨A2, c2, rfl⟩ := own_slice6 hown
    obtain ⟨lx, hlx⟩ : ∃ lx, s.facts.drop iq = lx := ⟨_, rfl⟩
    obtain ⟨ly, hly⟩ : ∃ ly, t.facts.drop kq = ly := ⟨_, rfl⟩
    rw [hlx] at HX
    rw [hly] at HY
    have Hlx := Lib.hid hlx
    have Hly := Lib.hid hly
    have Hown := Lib.hid hown
    have Hg := Lib.hid hg
    have Hix : Hid (iq + Lx = n ∧ kq + Ly = m) := ⟨hix, hky⟩
    have Hcx : Hid (Lx ≤ cx ∧ Ly ≤ cy) := ⟨hcx, hcy⟩
    clear hlx hly hown hg hix hky hcx hcy
    by_cases hz : Lx = 0 ∧ Ly = 0
    · obtain ⟨rfl, rfl⟩ := hz
      have HD : Hid (L = joinF s t) := HJ.out.ji.done HSS.out.1 HSS.out.2 (by have := Hs.out.2.1; have := Hix.out.1; omega) (by have := Ht.out.2.1; have := Hix.out.2; omega)
      go_wp2_with fail
      go_ret
      obtain ⟨A3, c3, hv, hf, hle⟩ := own_fl Hown.out HN.out.1
      cases hv
      have el : (joinF s t).length = N := by rw [← HD.out, HN.out.1]
      exact ⟨A2, c2, by rw [el]; rfl, by rw [el, ← HD.out]; exact hf, by rw [el]; exact hle, gb_none HG.out Hg.out⟩
    · obtain ⟨cv, hcv⟩ : ∃ cv, whoI lx ly = cv := ⟨_, rfl⟩
      have Hcv := Lib.hid hcv
      have Hz := Lib.hid hz
      obtain ⟨W4, hW4⟩ : ∃ W4, wr.alloc (.cells #[.int .i64 0, .int .i64 0, .string ⟨#[]⟩, .int .i64 0, .string ⟨#[]⟩, .int .i64 0] 63) = W4 := ⟨_, rfl⟩
      obtain ⟨D, hD⟩ : ∃ D, wr.heap.size = D := ⟨_, rfl⟩
      have Hrow4 : Hid (Row W4 D 63 #[.int .i64 0, .int .i64 0, .string ⟨#[]⟩, .int .i64 0, .string ⟨#[]⟩, .int .i64 0]) := by rw [← hW4, ← hD]; exact Row.new _ _ _
      have Hown4 : Hid (W4.ownsRow ob 63 6 (.slice A2 N c2) N (fv L)) := by rw [← hW4]; exact Hown.out.alloc _
      have Hg4 : Hid (W0.grownBy W4 none) := by rw [← hW4]; exact gb_alloc Hg.out _
      have HDn : Hid (∀ i, Value.ownBlock (.slice A2 N c2) = some i → i ≠ D) := fun i e => by have := (Hown.out.lt i e).2; omega
      have HD0 : Hid (W0.heap.size ≤ D) := by show _ ≤ D; rw [← hD]; exact Hg.out.size
      have HWh := Lib.hid (whose_any Ax Ay Lx cx Ly cy lx ly W4 (HX.out.keep Hg4.out) (HY.out.keep Hg4.out))
      have hcond : ∃ b1 b2 : Bool, decide (0 < Lx) = b1 ∧ decide (0 < Ly) = b2 ∧ (b1 || b2) = true := ⟨_, _, rfl, rfl, by simp; omega⟩
      obtain ⟨b1, b2, hb1, hb2, hb⟩ := hcond
      have hb1' : decide ((0 : Int) < (Lx : Int)) = b1 := by rw [← hb1]; exact decide_eq_decide.2 (by omega)
      have hb2' : decide ((0 : Int) < (Ly : Int)) = b2 := by rw [← hb2]; exact decide_eq_decide.2 (by omega)
      clear hz hcv
      go_upto_region 3 with fail
      go_cut [21] (fun v wx => v = .bool true ∧ wr = wx)
      case first =>
        clear hD hW4
        cases b1 with
        | true =>
          go_wp2_with fail
          go_meet
          exact ⟨rfl, rfl⟩
        | false =>
          obtain rfl : b2 = true := by simpa using hb
          go_wp2_with fail
          go_meet
          exact ⟨rfl, rfl⟩
      case rest =>
      obtain ⟨rfl, rfl⟩ := hcut
      clear hb1 hb2 hb1' hb2' hb
      go_upto_region 6 with fail
      clear hW4 hD Hown Hg
      go_upto_block 2 with (go_at_call 40; refine HWh.out.mono ?_; rintro e w5 ⟨he, g5⟩; rw [Hcv.out] at he; subst he)
      have Hrow5 : Hid (Row w5 D 63 #[.int .i64 0, .int .i64 0, .string ⟨#[]⟩, .int .i64 0, .string ⟨#[]⟩, .int .i64 0]) := Hrow4.out.kept g5 (by simp)
      have Hown5 : Hid (w5.ownsRow ob 63 6 (.slice A2 N c2) N (fv L)) := Hown4.out.kept g5 (by cases hv : Value.ownBlock (.slice A2 N c2) <;> simp)
      have Hg5 : Hid (W0.grownBy w5 none) := gb_none Hg4.out g5
      clear g5 Hrow4 Hown4 HWh
      go_cut [6, 7, 9] (fun xv yv sv wx => ∃ (iq' kq' Lx' Ly' : Nat) (Ax' Ay' : Option Addr) (cx' cy' : Nat) (z : Fc) (sb : Bool), iq' + Lx' = n ∧ kq' + Ly' = m ∧ xv = .slice Ax' Lx' cx' ∧ yv = .slice Ay' Ly' cy' ∧ sv = .bool sb ∧ Lx' ≤ cx' ∧ Ly' ≤ cy' ∧ FL W0 Ax' Lx' (s.facts.drop iq') ∧ FL W0 Ay' Ly' (t.facts.drop kq') ∧ JL s t iq' kq' (if sb then L ++ [z] else L) ∧ N + 1 ≤ iq' + kq' ∧ Row wx D 63 #[.int .i64 z.d, .int .i64 z.n, .string z.key, .int .i64 z.kind, .string z.item, .int .i64 z.v] ∧ w5.grownBy wx (some D) ∧ Lx' + Ly' < Lx + Ly)
      case first =>
        have hxs : ∀ a b, s.facts.drop iq = a :: b → s.facts[iq]? = some a ∧ s.facts.drop (iq + 1) = b := fun a b h => ⟨by have h2 := congrArg List.head? h; rw [List.head?_drop] at h2; exact h2, by have h2 := congrArg List.tail h; rw [List.tail_drop] at h2; exact h2⟩
        have hys : ∀ a b, t.facts.drop kq = a :: b → t.facts[kq]? = some a ∧ t.facts.drop (kq + 1) = b := fun a b h => ⟨by have h2 := congrArg List.head? h; rw [List.head?_drop] at h2; exact h2, by have h2 := congrArg List.tail h; rw [List.tail_drop] at h2; exact h2⟩
        have hcase : (cv = -1 ∧ ∃ x l, lx = x :: l ∧ ∀ y, t.facts[kq]? = some y → FLt x y) ∨ (cv = 1 ∧ ∃ y l, ly = y :: l ∧ ∀ x, s.facts[iq]? = some x → FLt y x) ∨ (cv = 0 ∧ ∃ x l y l', lx = x :: l ∧ ly = y :: l' ∧ x.d = y.d ∧ x.n = y.n) := by
          cases hx : lx with
          | nil =>
            have hc := Hcv.out
            rw [hx] at hc
            cases hy : ly with
            | nil =>
              have h1 := HX.out.1; have h2 := HY.out.1
              rw [hx] at h1; rw [hy] at h2
              exact absurd ⟨h1.symm, h2.symm⟩ Hz.out
            | cons y l =>
              refine .inr (.inl ⟨hc.symm, y, l, rfl, fun x h => ?_⟩)
              have h2 := Hlx.out
              rw [hx, List.drop_eq_nil_iff] at h2
              rw [List.getElem?_eq_none h2] at h; cases h
          | cons x l =>
            have hc := Hcv.out
            rw [hx] at hc
            cases hy : ly with
            | nil =>
              rw [hy] at hc
              refine .inl ⟨hc.symm, x, l, rfl, fun y h => ?_⟩
              have h2 := Hly.out
              rw [hy, List.drop_eq_nil_iff] at h2
              rw [List.getElem?_eq_none h2] at h; cases h
            | cons y l' =>
              rw [hy] at hc
              have hc' : cmpD x.d x.n y.d y.n = cv := hc
              have hxe := (hxs x l (by rw [Hlx.out, hx])).1
              have hye := (hys y l' (by rw [Hly.out, hy])).1
              by_cases h1 : Lt x.d x.n y.d y.n
              · refine .inl ⟨by rw [← hc']; exact cmp_lt h1, x, l, rfl, fun y2 h => ?_⟩
                rw [hye] at h; cases h; exact h1
              · by_cases h2 : x.d = y.d ∧ x.n = y.n
                · exact .inr (.inr ⟨by rw [← hc']; exact cmp_is h1 h2, x, l, y, l', rfl, rfl, h2.1, h2.2⟩)
                · refine .inr (.inl ⟨by rw [← hc']; exact cmp_gt h1 h2, y, l', rfl, fun x2 h => ?_⟩)
                  rw [hxe] at h; cases h
                  unfold FLt Lt at *; omega
        have Hxs := Lib.hid hxs
        have Hys := Lib.hid hys
        clear hxs hys
        rcases hcase with ⟨rfl, x, l, rfl, hlt⟩ | ⟨rfl, y, l, rfl, hlt⟩ | ⟨rfl, x, l, y, l', rfl, rfl, hd1, hd2⟩
        · obtain ⟨M, rfl⟩ : ∃ M, Lx = M + 1 := ⟨Lx - 1, by have := HX.out.1; simp at this; omega⟩
          obtain ⟨hxe, hdx⟩ := Hxs.out x l Hlx.out
          have Hdx := Lib.hid hdx
          obtain ⟨hb, hhb⟩ : ∃ hb, hasB t.seen x.d x.n = hb := ⟨_, rfl⟩
          have Hhb := Lib.hid hhb
          have HjA : Hid (JL s t (iq + 1) kq (if (!hb) then L ++ [x] else L)) := by
            have h := HJ.out.stepA HSS.out.1 HSS.out.2 hxe hlt
            rw [hhb] at h
            show JL _ _ _ _ _
            cases hb <;> exact h
          obtain ⟨g, o, rfl, _, hxx⟩ := fl_head HX.out
          have HXX : Hid (∀ W, W0.grownBy W none → W.cell? ⟨g, o, none⟩ = some (.int .i64 x.d) ∧ W.cell? ⟨g, o + 1, none⟩ = some (.int .i64 x.n) ∧ W.cell? ⟨g, o + 2, none⟩ = some (.string x.key) ∧ W.cell? ⟨g, o + 3, none⟩ = some (.int .i64 x.kind) ∧ W.cell? ⟨g, o + 4, none⟩ = some (.string x.item) ∧ W.cell? ⟨g, o + 5, none⟩ = some (.int .i64 x.v)) := fun W hW => hxx W hW
          have f0 := Hrow5.out.free 0
          have r0 := Hrow5.out.at_ (i := 0) rfl
          have f1 := Hrow5.out.free 1
          have r1 := Hrow5.out.at_ (i := 1) rfl
          have f2 := Hrow5.out.free 2
          have r2 := Hrow5.out.at_ (i := 2) rfl
          have f3 := Hrow5.out.free 3
          have r3 := Hrow5.out.at_ (i := 3) rfl
          have f4 := Hrow5.out.free 4
          have r4 := Hrow5.out.at_ (i := 4) rfl
          have f5 := Hrow5.out.free 5
          have r5 := Hrow5.out.at_ (i := 5) rfl
          have z1 : (1 : Int) ≤ ((M + 1 : Nat) : Int) := by omega
          have z2 : ((M + 1 : Nat) : Int) ≤ (cx : Int) := by have := Hcx.out; omega
          have z3 : (1 : Int) ≤ (M : Int) + 1 := by omega
          have z4 : (M : Int) + 1 ≤ (cx : Int) := by have := Hcx.out; omega
          have z5 : (M : Int) + 1 - 1 = (M : Int) := by omega
          have z6 : 1 ≤ cx := by have := Hcx.out; omega
          have z7 : (0 : Int) < (M : Int) + 1 := by omega
          have z8 : (0 : Int) < ((M + 1 : Nat) : Int) := by omega
          clear hxe hdx hlt hhb hxx
          by_cases hc1 : cx = 1
          · subst hc1
            obtain rfl : M = 0 := by have := Hcx.out.1; omega
            obtain ⟨c0, c1, c2, c3, c4, c5⟩ := HXX.out w5 Hg5.out
            have HG6 := Lib.hid (gb_drew (gb_six (x := x) Hg5.out HD0.out))
            have HS6 := Lib.hid (HXX.out _ HG6.out)
            go_upto_region 11 with fail
            go_region_held3 (fun w' => w'.cell? ⟨g, o, none⟩ = some (.int .i64 x.d) ∧ w'.cell? ⟨g, o + 1, none⟩ = some (.int .i64 x.n) ∧ w'.cell? ⟨g, o + 2, none⟩ = some (.string x.key) ∧ w'.cell? ⟨g, o + 3, none⟩ = some (.int .i64 x.kind) ∧ w'.cell? ⟨g, o + 4, none⟩ = some (.string x.item) ∧ w'.cell? ⟨g, o + 5, none⟩ = some (.int .i64 x.v)) (first | (with_reducible exact HS6.out) | (with_reducible exact HXX.out _ (gb_drew Hg5.out)) | go_keep) (fail)
            go_upto_region 12 with fail
            refine Td.named (fun W' => W0.grownBy W' none ∧ Row W' D 63 #[.int .i64 x.d, .int .i64 x.n, .string x.key, .int .i64 x.kind, .string x.item, .int .i64 x.v] ∧ w5.grownBy W' (some D)) ⟨gb_drew (gb_six Hg5.out HD0.out), (row_six Hrow5.out).drew, gb_drew gb_sixD⟩ ?_
            rintro w6 ⟨hg6, hr6, hd6⟩
            have G6 := Lib.hid hg6
            have R6 := Lib.hid hr6
            have D6 := Lib.hid hd6
            have v0 := R6.out.at_ (i := 0) rfl
            have v1 := R6.out.at_ (i := 1) rfl
            obtain ⟨j0, j1, j2, j3⟩ := HC.out w6 hg6
            clear hg6 hr6 hd6 HG6 HS6 c0 c1 c2 c3 c4 c5 f0 f1 f2 f3 f4 f5 r0 r1 r2 r3 r4 r5 z1 z2 z3 z4 z5 z6 z7 z8
            go_wp2_with (go_at_call 41; refine (pHas_any A' q c' t.seen x.d x.n w6 (Ht.out.1.keep G6.out) HSS.out.2.1 (by have := Hnd.out; omega)).mono ?_; rintro e w7 ⟨he, g7⟩; rw [Hhb.out] at he; subst he)
            go_meet
            exact ⟨iq + 1, kq, 0, Ly, _, Ay, _, cy, x, !hb, by have := Hix.out.1; omega, Hix.out.2, rfl, rfl, rfl, by have := Hcx.out.1; omega, Hcx.out.2, by rw [Hdx.out]; exact fl_zero HX.out _, by rw [Hly.out]; exact HY.out, HjA.out, by have := HN.out.2; omega, R6.out.kept g7 (by simp), gb_none D6.out g7, by omega⟩
          · have hc2 : ¬ cx - 1 = 0 := by have := Hcx.out.1; omega
            have hc3 : ¬ cx = 1 := hc1
            obtain ⟨c0, c1, c2, c3, c4, c5⟩ := HXX.out w5 Hg5.out
            have HG6 := Lib.hid (gb_drew (gb_six (x := x) Hg5.out HD0.out))
            have HS6 := Lib.hid (HXX.out _ HG6.out)
            go_upto_region 11 with fail
            go_region_held3 (fun w' => w'.cell? ⟨g, o, none⟩ = some (.int .i64 x.d) ∧ w'.cell? ⟨g, o + 1, none⟩ = some (.int .i64 x.n) ∧ w'.cell? ⟨g, o + 2, none⟩ = some (.string x.key) ∧ w'.cell? ⟨g, o + 3, none⟩ = some (.int .i64 x.kind) ∧ w'.cell? ⟨g, o + 4, none⟩ = some (.string x.item) ∧ w'.cell? ⟨g, o + 5, none⟩ = some (.int .i64 x.v)) (first | (with_reducible exact HS6.out) | (with_reducible exact HXX.out _ (gb_drew Hg5.out)) | go_keep) (fail)
            go_upto_region 12 with fail
            refine Td.named (fun W' => W0.grownBy W' none ∧ Row W' D 63 #[.int .i64 x.d, .int .i64 x.n, .string x.key, .int .i64 x.kind, .string x.item, .int .i64 x.v] ∧ w5.grownBy W' (some D)) ⟨gb_drew (gb_six Hg5.out HD0.out), (row_six Hrow5.out).drew, gb_drew gb_sixD⟩ ?_
            rintro w6 ⟨hg6, hr6, hd6⟩
            have G6 := Lib.hid hg6
            have R6 := Lib.hid hr6
            have D6 := Lib.hid hd6
            have v0 := R6.out.at_ (i := 0) rfl
            have v1 := R6.out.at_ (i := 1) rfl
            obtain ⟨j0, j1, j2, j3⟩ := HC.out w6 hg6
            clear hg6 hr6 hd6 HG6 HS6 c0 c1 c2 c3 c4 c5 f0 f1 f2 f3 f4 f5 r0 r1 r2 r3 r4 r5 z1 z2 z3 z4 z5 z6 z7 z8
            go_wp2_with (go_at_call 41; refine (pHas_any A' q c' t.seen x.d x.n w6 (Ht.out.1.keep G6.out) HSS.out.2.1 (by have := Hnd.out; omega)).mono ?_; rintro e w7 ⟨he, g7⟩; rw [Hhb.out] at he; subst he)
            go_meet
            exact ⟨iq + 1, kq, M, Ly, _, Ay, _, cy, x, !hb, by have := Hix.out.1; omega, Hix.out.2, rfl, rfl, rfl, by have := Hcx.out.1; omega, Hcx.out.2, by rw [Hdx.out]; exact fl_tail HX.out, by rw [Hly.out]; exact HY.out, HjA.out, by have := HN.out.2; omega, R6.out.kept g7 (by simp), gb_none D6.out g7, by omega⟩
        · obtain ⟨M, rfl⟩ : ∃ M, Ly = M + 1 := ⟨Ly - 1, by have := HY.out.1; simp at this; omega⟩
          obtain ⟨hxe, hdx⟩ := Hys.out y l Hly.out
          have Hdx := Lib.hid hdx
          obtain ⟨hb, hhb⟩ : ∃ hb, hasB s.seen y.d y.n = hb := ⟨_, rfl⟩
          have Hhb := Lib.hid hhb
          have HjA : Hid (JL s t iq (kq + 1) (if (!hb) then L ++ [y] else L)) := by
            have h := HJ.out.stepB HSS.out.1 HSS.out.2 hxe hlt
            rw [hhb] at h
            show JL _ _ _ _ _
            cases hb <;> exact h
          obtain ⟨g, o, rfl, _, hxx⟩ := fl_head HY.out
          have HXX : Hid (∀ W, W0.grownBy W none → W.cell? ⟨g, o, none⟩ = some (.int .i64 y.d) ∧ W.cell? ⟨g, o + 1, none⟩ = some (.int .i64 y.n) ∧ W.cell? ⟨g, o + 2, none⟩ = some (.string y.key) ∧ W.cell? ⟨g, o + 3, none⟩ = some (.int .i64 y.kind) ∧ W.cell? ⟨g, o + 4, none⟩ = some (.string y.item) ∧ W.cell? ⟨g, o + 5, none⟩ = some (.int .i64 y.v)) := fun W hW => hxx W hW
          have f0 := Hrow5.out.free 0
          have r0 := Hrow5.out.at_ (i := 0) rfl
          have f1 := Hrow5.out.free 1
          have r1 := Hrow5.out.at_ (i := 1) rfl
          have f2 := Hrow5.out.free 2
          have r2 := Hrow5.out.at_ (i := 2) rfl
          have f3 := Hrow5.out.free 3
          have r3 := Hrow5.out.at_ (i := 3) rfl
          have f4 := Hrow5.out.free 4
          have r4 := Hrow5.out.at_ (i := 4) rfl
          have f5 := Hrow5.out.free 5
          have r5 := Hrow5.out.at_ (i := 5) rfl
          have z1 : (1 : Int) ≤ ((M + 1 : Nat) : Int) := by omega
          have z2 : ((M + 1 : Nat) : Int) ≤ (cy : Int) := by have := Hcx.out; omega
          have z3 : (1 : Int) ≤ (M : Int) + 1 := by omega
          have z4 : (M : Int) + 1 ≤ (cy : Int) := by have := Hcx.out; omega
          have z5 : (M : Int) + 1 - 1 = (M : Int) := by omega
          have z6 : 1 ≤ cy := by have := Hcx.out; omega
          have z7 : (0 : Int) < (M : Int) + 1 := by omega
          have z8 : (0 : Int) < ((M + 1 : Nat) : Int) := by omega
          clear hxe hdx hlt hhb hxx
          by_cases hc1 : cy = 1
          · subst hc1
            obtain rfl : M = 0 := by have := Hcx.out.2; omega
            obtain ⟨c0, c1, c2, c3, c4, c5⟩ := HXX.out w5 Hg5.out
            have HG6 := Lib.hid (gb_drew (gb_six (x := y) Hg5.out HD0.out))
            have HS6 := Lib.hid (HXX.out _ HG6.out)
            go_upto_region 13 with fail
            go_region_held3 (fun w' => w'.cell? ⟨g, o, none⟩ = some (.int .i64 y.d) ∧ w'.cell? ⟨g, o + 1, none⟩ = some (.int .i64 y.n) ∧ w'.cell? ⟨g, o + 2, none⟩ = some (.string y.key) ∧ w'.cell? ⟨g, o + 3, none⟩ = some (.int .i64 y.kind) ∧ w'.cell? ⟨g, o + 4, none⟩ = some (.string y.item) ∧ w'.cell? ⟨g, o + 5, none⟩ = some (.int .i64 y.v)) (first | (with_reducible exact HS6.out) | (with_reducible exact HXX.out _ (gb_drew Hg5.out)) | go_keep) (fail)
            go_upto_region 14 with fail
            refine Td.named (fun W' => W0.grownBy W' none ∧ Row W' D 63 #[.int .i64 y.d, .int .i64 y.n, .string y.key, .int .i64 y.kind, .string y.item, .int .i64 y.v] ∧ w5.grownBy W' (some D)) ⟨gb_drew (gb_six Hg5.out HD0.out), (row_six Hrow5.out).drew, gb_drew gb_sixD⟩ ?_
            rintro w6 ⟨hg6, hr6, hd6⟩
            have G6 := Lib.hid hg6
            have R6 := Lib.hid hr6
            have D6 := Lib.hid hd6
            have v0 := R6.out.at_ (i := 0) rfl
            have v1 := R6.out.at_ (i := 1) rfl
            obtain ⟨j0, j1, j2, j3⟩ := HC.out w6 hg6
            clear hg6 hr6 hd6 HG6 HS6 c0 c1 c2 c3 c4 c5 f0 f1 f2 f3 f4 f5 r0 r1 r2 r3 r4 r5 z1 z2 z3 z4 z5 z6 z7 z8
            go_wp2_with (go_at_call 41; refine (pHas_any A p c s.seen y.d y.n w6 (Hs.out.1.keep G6.out) HSS.out.1.1 (by have := Hnd.out; omega)).mono ?_; rintro e w7 ⟨he, g7⟩; rw [Hhb.out] at he; subst he)
            go_meet
            exact ⟨iq, kq + 1, Lx, 0, Ax, _, cx, _, y, !hb, Hix.out.1, by have := Hix.out.2; omega, rfl, rfl, rfl, Hcx.out.1, by have := Hcx.out.2; omega, by rw [Hlx.out]; exact HX.out, by rw [Hdx.out]; exact fl_zero HY.out _, HjA.out, by have := HN.out.2; omega, R6.out.kept g7 (by simp), gb_none D6.out g7, by omega⟩
          · have hc2 : ¬ cy - 1 = 0 := by have := Hcx.out.2; omega
            have hc3 : ¬ cy = 1 := hc1
            obtain ⟨c0, c1, c2, c3, c4, c5⟩ := HXX.out w5 Hg5.out
            have HG6 := Lib.hid (gb_drew (gb_six (x := y) Hg5.out HD0.out))
            have HS6 := Lib.hid (HXX.out _ HG6.out)
            go_upto_region 13 with fail
            go_region_held3 (fun w' => w'.cell? ⟨g, o, none⟩ = some (.int .i64 y.d) ∧ w'.cell? ⟨g, o + 1, none⟩ = some (.int .i64 y.n) ∧ w'.cell? ⟨g, o + 2, none⟩ = some (.string y.key) ∧ w'.cell? ⟨g, o + 3, none⟩ = some (.int .i64 y.kind) ∧ w'.cell? ⟨g, o + 4, none⟩ = some (.string y.item) ∧ w'.cell? ⟨g, o + 5, none⟩ = some (.int .i64 y.v)) (first | (with_reducible exact HS6.out) | (with_reducible exact HXX.out _ (gb_drew Hg5.out)) | go_keep) (fail)
            go_upto_region 14 with fail
            refine Td.named (fun W' => W0.grownBy W' none ∧ Row W' D 63 #[.int .i64 y.d, .int .i64 y.n, .string y.key, .int .i64 y.kind, .string y.item, .int .i64 y.v] ∧ w5.grownBy W' (some D)) ⟨gb_drew (gb_six Hg5.out HD0.out), (row_six Hrow5.out).drew, gb_drew gb_sixD⟩ ?_
            rintro w6 ⟨hg6, hr6, hd6⟩
            have G6 := Lib.hid hg6
            have R6 := Lib.hid hr6
            have D6 := Lib.hid hd6
            have v0 := R6.out.at_ (i := 0) rfl
            have v1 := R6.out.at_ (i := 1) rfl
            obtain ⟨j0, j1, j2, j3⟩ := HC.out w6 hg6
            clear hg6 hr6 hd6 HG6 HS6 c0 c1 c2 c3 c4 c5 f0 f1 f2 f3 f4 f5 r0 r1 r2 r3 r4 r5 z1 z2 z3 z4 z5 z6 z7 z8
            go_wp2_with (go_at_call 41; refine (pHas_any A p c s.seen y.d y.n w6 (Hs.out.1.keep G6.out) HSS.out.1.1 (by have := Hnd.out; omega)).mono ?_; rintro e w7 ⟨he, g7⟩; rw [Hhb.out] at he; subst he)
            go_meet
            exact ⟨iq, kq + 1, Lx, M, Ax, _, cx, _, y, !hb, Hix.out.1, by have := Hix.out.2; omega, rfl, rfl, rfl, Hcx.out.1, by have := Hcx.out.2; omega, by rw [Hlx.out]; exact HX.out, by rw [Hdx.out]; exact fl_tail HY.out, HjA.out, by have := HN.out.2; omega, R6.out.kept g7 (by simp), gb_none D6.out g7, by omega⟩
        · obtain ⟨M, rfl⟩ : ∃ M, Lx = M + 1 := ⟨Lx - 1, by have := HX.out.1; simp at this; omega⟩
          obtain ⟨Q, rfl⟩ : ∃ Q, Ly = Q + 1 := ⟨Ly - 1, by have := HY.out.1; simp at this; omega⟩
          obtain ⟨hxe, hdx⟩ := Hxs.out x l Hlx.out
          obtain ⟨hye, hdy⟩ := Hys.out y l' Hly.out
          have Hdx := Lib.hid hdx
          have Hdy := Lib.hid hdy
          have HjA : Hid (JL s t (iq + 1) (kq + 1) (L ++ [x])) := HJ.out.both HSS.out.1 HSS.out.2 hxe hye ⟨hd1, hd2⟩
          obtain ⟨g, o, rfl, _, hxx⟩ := fl_head HX.out
          obtain ⟨g', o', rfl, _, _⟩ := fl_head HY.out
          have HXX : Hid (∀ W, W0.grownBy W none → W.cell? ⟨g, o, none⟩ = some (.int .i64 x.d) ∧ W.cell? ⟨g, o + 1, none⟩ = some (.int .i64 x.n) ∧ W.cell? ⟨g, o + 2, none⟩ = some (.string x.key) ∧ W.cell? ⟨g, o + 3, none⟩ = some (.int .i64 x.kind) ∧ W.cell? ⟨g, o + 4, none⟩ = some (.string x.item) ∧ W.cell? ⟨g, o + 5, none⟩ = some (.int .i64 x.v)) := fun W hW => hxx W hW
          have f0 := Hrow5.out.free 0
          have r0 := Hrow5.out.at_ (i := 0) rfl
          have f1 := Hrow5.out.free 1
          have r1 := Hrow5.out.at_ (i := 1) rfl
          have f2 := Hrow5.out.free 2
          have r2 := Hrow5.out.at_ (i := 2) rfl
          have f3 := Hrow5.out.free 3
          have r3 := Hrow5.out.at_ (i := 3) rfl
          have f4 := Hrow5.out.free 4
          have r4 := Hrow5.out.at_ (i := 4) rfl
          have f5 := Hrow5.out.free 5
          have r5 := Hrow5.out.at_ (i := 5) rfl
          have z1 : (1 : Int) ≤ ((M + 1 : Nat) : Int) := by omega
          have z2 : ((M + 1 : Nat) : Int) ≤ (cx : Int) := by have := Hcx.out; omega
          have z3 : (1 : Int) ≤ (M : Int) + 1 := by omega
          have z4 : (M : Int) + 1 ≤ (cx : Int) := by have := Hcx.out; omega
          have z5 : (M : Int) + 1 - 1 = (M : Int) := by omega
          have z6 : 1 ≤ cx := by have := Hcx.out; omega
          have z7 : (0 : Int) < (M : Int) + 1 := by omega
          have z8 : (0 : Int) < ((M + 1 : Nat) : Int) := by omega
          have y1 : (1 : Int) ≤ ((Q + 1 : Nat) : Int) := by omega
          have y2 : ((Q + 1 : Nat) : Int) ≤ (cy : Int) := by have := Hcx.out; omega
          have y3 : (1 : Int) ≤ (Q : Int) + 1 := by omega
          have y4 : (Q : Int) + 1 ≤ (cy : Int) := by have := Hcx.out; omega
          have y5 : (Q : Int) + 1 - 1 = (Q : Int) := by omega
          have y6 : 1 ≤ cy := by have := Hcx.out; omega
          have y7 : (0 : Int) < (Q : Int) + 1 := by omega
          have y8 : (0 : Int) < ((Q + 1 : Nat) : Int) := by omega
          clear hxe hdx hye hdy hd1 hd2 hxx
          by_cases hc1 : cx = 1
          · by_cases hc4 : cy = 1
            · subst hc1
              obtain rfl : M = 0 := by have := Hcx.out.1; omega
              subst hc4
              obtain rfl : Q = 0 := by have := Hcx.out.2; omega
              obtain ⟨c0, c1, c2, c3, c4, c5⟩ := HXX.out w5 Hg5.out
              have HG6 := Lib.hid (gb_drew (gb_six (x := x) Hg5.out HD0.out))
              have HS6 := Lib.hid (HXX.out _ HG6.out)
              go_upto_region 11 with fail
              go_region_held3 (fun w' => w'.cell? ⟨g, o, none⟩ = some (.int .i64 x.d) ∧ w'.cell? ⟨g, o + 1, none⟩ = some (.int .i64 x.n) ∧ w'.cell? ⟨g, o + 2, none⟩ = some (.string x.key) ∧ w'.cell? ⟨g, o + 3, none⟩ = some (.int .i64 x.kind) ∧ w'.cell? ⟨g, o + 4, none⟩ = some (.string x.item) ∧ w'.cell? ⟨g, o + 5, none⟩ = some (.int .i64 x.v)) (first | (with_reducible exact HS6.out) | (with_reducible exact HXX.out _ (gb_drew Hg5.out)) | go_keep) (fail)
              go_upto_region 12 with fail
              refine Td.named (fun W' => W0.grownBy W' none ∧ Row W' D 63 #[.int .i64 x.d, .int .i64 x.n, .string x.key, .int .i64 x.kind, .string x.item, .int .i64 x.v] ∧ w5.grownBy W' (some D)) ⟨gb_drew (gb_six Hg5.out HD0.out), (row_six Hrow5.out).drew, gb_drew gb_sixD⟩ ?_
              rintro w6 ⟨hg6, hr6, hd6⟩
              have G6 := Lib.hid hg6
              have R6 := Lib.hid hr6
              have D6 := Lib.hid hd6
              clear hg6 hr6 hd6 HG6 HS6 c0 c1 c2 c3 c4 c5 f0 f1 f2 f3 f4 f5 r0 r1 r2 r3 r4 r5 z1 z2 z3 z4 z5 z6 z7 z8 y1 y2 y3 y4 y5 y6 y7 y8
              go_wp2_with fail
              go_meet
              exact ⟨iq + 1, kq + 1, 0, 0, _, _, _, _, x, true, by have := Hix.out.1; omega, by have := Hix.out.2; omega, rfl, rfl, rfl, by have := Hcx.out.1; omega, by have := Hcx.out.2; omega, by rw [Hdx.out]; exact fl_zero HX.out _, by rw [Hdy.out]; exact fl_zero HY.out _, HjA.out, by have := HN.out.2; omega, R6.out, D6.out, by omega⟩
            · subst hc1
              obtain rfl : M = 0 := by have := Hcx.out.1; omega
              have hc5 : ¬ cy - 1 = 0 := by have := Hcx.out.2; omega
              have hc6 : ¬ cy = 1 := hc4
              obtain ⟨c0, c1, c2, c3, c4, c5⟩ := HXX.out w5 Hg5.out
              have HG6 := Lib.hid (gb_drew (gb_six (x := x) Hg5.out HD0.out))
              have HS6 := Lib.hid (HXX.out _ HG6.out)
              go_upto_region 11 with fail
              go_region_held3 (fun w' => w'.cell? ⟨g, o, none⟩ = some (.int .i64 x.d) ∧ w'.cell? ⟨g, o + 1, none⟩ = some (.int .i64 x.n) ∧ w'.cell? ⟨g, o + 2, none⟩ = some (.string x.key) ∧ w'.cell? ⟨g, o + 3, none⟩ = some (.int .i64 x.kind) ∧ w'.cell? ⟨g, o + 4, none⟩ = some (.string x.item) ∧ w'.cell? ⟨g, o + 5, none⟩ = some (.int .i64 x.v)) (first | (with_reducible exact HS6.out) | (with_reducible exact HXX.out _ (gb_drew Hg5.out)) | go_keep) (fail)
              go_upto_region 12 with fail
              refine Td.named (fun W' => W0.grownBy W' none ∧ Row W' D 63 #[.int .i64 x.d, .int .i64 x.n, .string x.key, .int .i64 x.kind, .string x.item, .int .i64 x.v] ∧ w5.grownBy W' (some D)) ⟨gb_drew (gb_six Hg5.out HD0.out), (row_six Hrow5.out).drew, gb_drew gb_sixD⟩ ?_
              rintro w6 ⟨hg6, hr6, hd6⟩
              have G6 := Lib.hid hg6
              have R6 := Lib.hid hr6
              have D6 := Lib.hid hd6
              clear hg6 hr6 hd6 HG6 HS6 c0 c1 c2 c3 c4 c5 f0 f1 f2 f3 f4 f5 r0 r1 r2 r3 r4 r5 z1 z2 z3 z4 z5 z6 z7 z8 y1 y2 y3 y4 y5 y6 y7 y8
              go_wp2_with fail
              go_meet
              exact ⟨iq + 1, kq + 1, 0, Q, _, _, _, _, x, true, by have := Hix.out.1; omega, by have := Hix.out.2; omega, rfl, rfl, rfl, by have := Hcx.out.1; omega, by have := Hcx.out.2; omega, by rw [Hdx.out]; exact fl_zero HX.out _, by rw [Hdy.out]; exact fl_tail HY.out, HjA.out, by have := HN.out.2; omega, R6.out, D6.out, by omega⟩
          · by_cases hc4 : cy = 1
            · have hc2 : ¬ cx - 1 = 0 := by have := Hcx.out.1; omega
              have hc3 : ¬ cx = 1 := hc1
              subst hc4
              obtain rfl : Q = 0 := by have := Hcx.out.2; omega
              obtain ⟨c0, c1, c2, c3, c4, c5⟩ := HXX.out w5 Hg5.out
              have HG6 := Lib.hid (gb_drew (gb_six (x := x) Hg5.out HD0.out))
              have HS6 := Lib.hid (HXX.out _ HG6.out)
              go_upto_region 11 with fail
              go_region_held3 (fun w' => w'.cell? ⟨g, o, none⟩ = some (.int .i64 x.d) ∧ w'.cell? ⟨g, o + 1, none⟩ = some (.int .i64 x.n) ∧ w'.cell? ⟨g, o + 2, none⟩ = some (.string x.key) ∧ w'.cell? ⟨g, o + 3, none⟩ = some (.int .i64 x.kind) ∧ w'.cell? ⟨g, o + 4, none⟩ = some (.string x.item) ∧ w'.cell? ⟨g, o + 5, none⟩ = some (.int .i64 x.v)) (first | (with_reducible exact HS6.out) | (with_reducible exact HXX.out _ (gb_drew Hg5.out)) | go_keep) (fail)
              go_upto_region 12 with fail
              refine Td.named (fun W' => W0.grownBy W' none ∧ Row W' D 63 #[.int .i64 x.d, .int .i64 x.n, .string x.key, .int .i64 x.kind, .string x.item, .int .i64 x.v] ∧ w5.grownBy W' (some D)) ⟨gb_drew (gb_six Hg5.out HD0.out), (row_six Hrow5.out).drew, gb_drew gb_sixD⟩ ?_
              rintro w6 ⟨hg6, hr6, hd6⟩
              have G6 := Lib.hid hg6
              have R6 := Lib.hid hr6
              have D6 := Lib.hid hd6
              clear hg6 hr6 hd6 HG6 HS6 c0 c1 c2 c3 c4 c5 f0 f1 f2 f3 f4 f5 r0 r1 r2 r3 r4 r5 z1 z2 z3 z4 z5 z6 z7 z8 y1 y2 y3 y4 y5 y6 y7 y8
              go_wp2_with fail
              go_meet
              exact ⟨iq + 1, kq + 1, M, 0, _, _, _, _, x, true, by have := Hix.out.1; omega, by have := Hix.out.2; omega, rfl, rfl, rfl, by have := Hcx.out.1; omega, by have := Hcx.out.2; omega, by rw [Hdx.out]; exact fl_tail HX.out, by rw [Hdy.out]; exact fl_zero HY.out _, HjA.out, by have := HN.out.2; omega, R6.out, D6.out, by omega⟩
            · have hc2 : ¬ cx - 1 = 0 := by have := Hcx.out.1; omega
              have hc3 : ¬ cx = 1 := hc1
              have hc5 : ¬ cy - 1 = 0 := by have := Hcx.out.2; omega
              have hc6 : ¬ cy = 1 := hc4
              obtain ⟨c0, c1, c2, c3, c4, c5⟩ := HXX.out w5 Hg5.out
              have HG6 := Lib.hid (gb_drew (gb_six (x := x) Hg5.out HD0.out))
              have HS6 := Lib.hid (HXX.out _ HG6.out)
              go_upto_region 11 with fail
              go_region_held3 (fun w' => w'.cell? ⟨g, o, none⟩ = some (.int .i64 x.d) ∧ w'.cell? ⟨g, o + 1, none⟩ = some (.int .i64 x.n) ∧ w'.cell? ⟨g, o + 2, none⟩ = some (.string x.key) ∧ w'.cell? ⟨g, o + 3, none⟩ = some (.int .i64 x.kind) ∧ w'.cell? ⟨g, o + 4, none⟩ = some (.string x.item) ∧ w'.cell? ⟨g, o + 5, none⟩ = some (.int .i64 x.v)) (first | (with_reducible exact HS6.out) | (with_reducible exact HXX.out _ (gb_drew Hg5.out)) | go_keep) (fail)
              go_upto_region 12 with fail
              refine Td.named (fun W' => W0.grownBy W' none ∧ Row W' D 63 #[.int .i64 x.d, .int .i64 x.n, .string x.key, .int .i64 x.kind, .string x.item, .int .i64 x.v] ∧ w5.grownBy W' (some D)) ⟨gb_drew (gb_six Hg5.out HD0.out), (row_six Hrow5.out).drew, gb_drew gb_sixD⟩ ?_
              rintro w6 ⟨hg6, hr6, hd6⟩
              have G6 := Lib.hid hg6
              have R6 := Lib.hid hr6
              have D6 := Lib.hid hd6
              clear hg6 hr6 hd6 HG6 HS6 c0 c1 c2 c3 c4 c5 f0 f1 f2 f3 f4 f5 r0 r1 r2 r3 r4 r5 z1 z2 z3 z4 z5 z6 z7 z8 y1 y2 y3 y4 y5 y6 y7 y8
              go_wp2_with fail
              go_meet
              exact ⟨iq + 1, kq + 1, M, Q, _, _, _, _, x, true, by have := Hix.out.1; omega, by have := Hix.out.2; omega, rfl, rfl, rfl, by have := Hcx.out.1; omega, by have := Hcx.out.2; omega, by rw [Hdx.out]; exact fl_tail HX.out, by rw [Hdy.out]; exact fl_tail HY.out, HjA.out, by have := HN.out.2; omega, R6.out, D6.out, by omega⟩
      case rest =>
        obtain ⟨iq', kq', Lx', Ly', Ax', Ay', cx', cy', z, sb, hix, hky, rfl, rfl, rfl, hcx, hcy, hfx, hfy, hj, hN, hrow, hg6, hless⟩ := hcut
        have Hown6 : Hid (wc.ownsRow ob 63 6 (.slice A2 N c2) N (fv L)) := Hown5.out.kept hg6 (.inr fun e => HDn.out D e rfl)
        have Hg6 : Hid (W0.grownBy wc none) := gb_new Hg5.out hg6 HD0.out
        have HF : Hid _ := And.intro hix (And.intro hky (And.intro hcx (And.intro hcy (And.intro hfx (And.intro hfy hless)))))
        have HJ6 := Lib.hid hj
        have HN6 := Lib.hid hN
        have Hrow6 := Lib.hid hrow
        have hNb : N + 1 ≤ maxLen ∧ (N + 1) * 64 ≤ 140737488355328 ∧ ob ≤ wc.heap.size := by have h1 := Hnd.out; have h2 := HN.out.2; have h3 := Hix.out; have h4 := Hg6.out.size; have h5 := Hob.out; simp only [maxLen]; omega
        have HNb := Lib.hid hNb
        clear hix hky hcx hcy hfx hfy hj hN hrow hg6 hless hNb Hrow5 Hown5
        cases sb with
        | true =>
          obtain ⟨u0, u1, u2, u3, u4, u5⟩ : At6 wc D 0 z := ⟨Hrow6.out.at_ (i := 0) rfl, Hrow6.out.at_ (i := 1) rfl, Hrow6.out.at_ (i := 2) rfl, Hrow6.out.at_ (i := 3) rfl, Hrow6.out.at_ (i := 4) rfl, Hrow6.out.at_ (i := 5) rfl⟩
          have Hown7 : Hid ((wc.alloc (.cells #[.int .i64 z.d, .int .i64 z.n, .string z.key, .int .i64 z.kind, .string z.item, .int .i64 z.v] 63)).ownsRow ob 63 6 (.slice A2 N c2) N (fv L)) := Hown6.out.alloc _
          have Hg7 : Hid (W0.grownBy (wc.alloc (.cells #[.int .i64 z.d, .int .i64 z.n, .string z.key, .int .i64 z.kind, .string z.item, .int .i64 z.v] 63)) none) := gb_alloc Hg6.out _
          go_wp2_with (at_builtin; go_must (refine wpList_append_own _ rfl (.tmp 59) (.tmp 61) 26 rfl ob 63 i0 (.agg #[.int .i64 0, .int .i64 0, .string ⟨#[]⟩, .int .i64 0, .string ⟨#[]⟩, .int .i64 0]) 6 64 Tryd.underlying26 Hi0.out Hz0.out Hz1.out Hz2.out rfl (by decide) _ N _ rfl Hown7.out ⟨wc.heap.size, 0, none⟩ 1 1 (fv1 z) rfl rfl (World.news_of_block (cs := #[.int .i64 z.d, .int .i64 z.n, .string z.key, .int .i64 z.kind, .string z.item, .int .i64 z.v]) (t := 63) (fr := (0, 0)) (heap_alloc_new wc _)) (fv1_one z) HNb.out.1 HNb.out.2.1 (by rw [World.size_alloc]; have := HNb.out.2.2; omega) ?_); intro v8 w8 own8 hgrow _; have Hown8 := Lib.hid own8; have Hg8 := Lib.hid (gb_step Hg7.out hgrow (fun i e => .inr (by have h := (Hown6.out.lt i e).1; have := Hob.out; omega))); obtain ⟨A8, c8, rfl⟩ := own_slice6 own8; clear own8 hgrow)
          go_roundw
          case rel =>
            refine ⟨iq', kq', Lx', Ly', N + 1, L ++ [z], Ax', Ay', cx', cy', HF.out.1, HF.out.2.1, rfl, rfl, HF.out.2.2.1, HF.out.2.2.2.1, HF.out.2.2.2.2.1, HF.out.2.2.2.2.2.1, HJ6.out, ⟨by rw [List.length_append, HN.out.1]; rfl, HN6.out⟩, ?_, Hg8.out⟩
            rw [fv_append, show fv [z] = fv1 z from List.append_nil _]
            exact Hown8.out
          case measure => simp [lenV]; have := HF.out.2.2.2.2.2.2; omega
        | false =>
          go_wp2_with fail
          go_roundw
          case rel => exact ⟨iq', kq', Lx', Ly', N, L, Ax', Ay', cx', cy', HF.out.1, HF.out.2.1, rfl, rfl, HF.out.2.2.1, HF.out.2.2.2.1, HF.out.2.2.2.2.1, HF.out.2.2.2.2.2.1, HJ6.out, ⟨HN.out.1, Nat.le_of_succ_le HN6.out⟩, Hown6.out, Hg6.out⟩
          case measure => simp [lenV]; have := HF.out.2.2.2.2.2.2; omega
end Go.Proofs.YtbdpckphlagijaaDoor.Dt

namespace Go.Proofs.YtbdpckphlagijaaDoor.Dt
open Go Go.RowKit Go.Proofs.YtbdpckphlagijaaDoor.Mm Go.Proofs.YtbdpckphlagijaaDoor.Td

def unV (L : Nat) (l : List Rn) : Td.Spec := fun W v => ∃ A c, v = .slice A L c ∧ RL W A L l ∧ L ≤ c
theorem unV_stays {L : Nat} {l : List Rn} : Stays (fun a b => a.grownBy b none) (unV L l) := fun _ _ _ h ⟨A, c, e, hr, hc⟩ => ⟨A, c, e, hr.keep h, hc⟩
def factsV (L : Nat) (l : List Fc) : Td.Spec := fun W v => ∃ A c, v = .slice A L c ∧ FL W A L l ∧ L ≤ c
theorem factsV_stays {L : Nat} {l : List Fc} : Stays (fun a b => a.grownBy b none) (factsV L l) := fun _ _ _ h ⟨A, c, e, hr, hc⟩ => ⟨A, c, e, hr.keep h, hc⟩
def joinV (L : Nat) (l : List Rn) (M : Nat) (k : List Fc) : Td.Spec := fun W v => ∃ A c B d, v = .agg #[.slice A L c, .slice B M d] ∧ RL W A L l ∧ L ≤ c ∧ FL W B M k ∧ M ≤ d
theorem joinV_stays {L M : Nat} {l : List Rn} {k : List Fc} : Stays (fun a b => a.grownBy b none) (joinV L l M k) := fun _ _ _ h ⟨A, c, B, d, e, hr, hc, hf, hd⟩ => ⟨A, c, B, d, e, hr.keep h, hc, hf.keep h, hd⟩
/-- A state as a value. -/
def stateV (s : St) : Td.Spec := fun W v => ∃ A n c B m d, v = .agg #[.slice A n c, .slice B m d] ∧ SL W A n B m s ∧ n ≤ c ∧ m ≤ d
theorem stateV_stays {s : St} : Stays (fun a b => a.grownBy b none) (stateV s) := fun _ _ _ h ⟨A, n, c, B, m, d, e, hr, hc, hd⟩ => ⟨A, n, c, B, m, d, e, hr.keep h, hc, hd⟩
attribute [local go_sem] Td.upon_value Td.upon_skip Td.upon_enter Td.upon_row Td.look_tmp Td.look_const Td.look_func Td.look_global
set_option maxHeartbeats 8000000 in
set_option maxRecDepth 100000 in
theorem pJoin_any (A B A' B' : Option Addr) (p c n d q c' m d' : Nat) (s t : St) (w : World) (hs : SL w A p B n s) (ht : SL w A' q B' m t) (ss : SS s) (st : SS t) (hp : p ≤ 10000) (hn : n ≤ 10000) (hq : q ≤ 10000) (hm : m ≤ 10000) (hnd : n ≤ d) (hmd : m ≤ d') (hqc : q ≤ c') :
    Calls Tryd.prog 30 #[.agg #[.slice A p c, .slice B n d], .agg #[.slice A' q c', .slice B' m d']] w (States (joinS s t) w) := by
  obtain ⟨W0, hW0⟩ : ∃ W0, ((w.alloc (.cells #[.slice A p c, .slice B n d] 28)).alloc (.cells #[.slice A' q c', .slice B' m d'] 28)).alloc (.cells #[.slice none 0 0, .slice none 0 0] 28) = W0 := ⟨_, rfl⟩
  obtain ⟨h0, hh0⟩ : ∃ h0, w.heap.size = h0 := ⟨_, rfl⟩
  have G0 : w.grownBy W0 none := by rw [← hW0]; exact gb_alloc (gb_alloc (gb_alloc (gb_refl _ _) _) _) _
  have hr0 : Row W0 h0 28 #[.slice A p c, .slice B n d] := by rw [← hW0, ← hh0]; exact ((Row.new _ _ _).alloc _).alloc _
  have hr1 : Row W0 (h0 + 1) 28 #[.slice A' q c', .slice B' m d'] := by
    rw [← hW0, ← hh0]
    have h := Row.new (w.alloc (.cells #[.slice A p c, .slice B n d] 28)) 28 #[.slice A' q c', .slice B' m d']
    rw [World.size_alloc] at h
    exact h.alloc _
  have hr2 : Row W0 (h0 + 1 + 1) 28 #[.slice none 0 0, .slice none 0 0] := by
    rw [← hW0, ← hh0]
    have h := Row.new ((w.alloc (.cells #[.slice A p c, .slice B n d] 28)).alloc (.cells #[.slice A' q c', .slice B' m d'] 28)) 28 #[.slice none 0 0, .slice none 0 0]
    rwa [World.size_alloc, World.size_alloc] at h
  have HC : Hid (∀ W, W0.grownBy W none → W.cell? ⟨h0, 0, none⟩ = some (.slice A p c) ∧ W.cell? ⟨h0, 1, none⟩ = some (.slice B n d) ∧ W.cell? ⟨h0 + 1, 0, none⟩ = some (.slice A' q c') ∧ W.cell? ⟨h0 + 1, 1, none⟩ = some (.slice B' m d')) := fun W hW => ⟨(hr0.kept hW (by simp)).at_ (i := 0) rfl, (hr0.kept hW (by simp)).at_ (i := 1) rfl, (hr1.kept hW (by simp)).at_ (i := 0) rfl, (hr1.kept hW (by simp)).at_ (i := 1) rfl⟩
  have HR2 := Lib.hid hr2
  have Hs := Lib.hid (hs.keep G0)
  have Ht := Lib.hid (ht.keep G0)
  have HG := Lib.hid G0
  have HSS : Hid (SS s ∧ SS t) := ⟨ss, st⟩
  have Hb : Hid (p ≤ 10000 ∧ n ≤ 10000 ∧ q ≤ 10000 ∧ m ≤ 10000 ∧ n ≤ d ∧ m ≤ d' ∧ q ≤ c') := ⟨hp, hn, hq, hm, hnd, hmd, hqc⟩
  have Hh0 : Hid (w.heap.size ≤ h0 + 1 + 1) := by show _ ≤ _; omega
  obtain ⟨us, hus⟩ : ∃ us, unionR s.seen t.seen = us := ⟨_, rfl⟩
  obtain ⟨Lu, hLu⟩ : ∃ Lu, us.length = Lu := ⟨_, rfl⟩
  obtain ⟨fl, hfl⟩ : ∃ fl, joinF s t = fl := ⟨_, rfl⟩
  obtain ⟨L, hL⟩ : ∃ L, fl.length = L := ⟨_, rfl⟩
  have Hus := Lib.hid hus
  have HLu := Lib.hid hLu
  have Hfl := Lib.hid hfl
  have HLf := Lib.hid hL
  clear hr0 hr1 hr2 hs ht ss st G0 hp hn hq hm hnd hmd hqc hus hLu hfl hL
  go_enter Tryd.func30, Tryd.ntmps30
  go_upto_region 1 with fail
  clear hW0 hh0
  apply wp_region_told_tail (le := fun a b => a.grownBy b none) 9 _ [isV _, isV _, isV _, isV _, unV Lu us, isV _, isV _, factsV L fl, joinV Lu us L fl]
  case hL => rfl
  case hz => rfl
  case hLd => rfl
  case hLg => rfl
  case hLw => kernel_rfl
  case hlen => rfl
  case hn => rfl
  case hm => kernel_rfl
  case hB => kernel_rfl
  case ht => exact fun _ _ _ h k => gb_none h k
  case hw => exact gb_drew (gb_refl _ _)
  -- 0: join.go:20 fieldAddr
  apply told_is
  · intro W f hW hE h0 K hK
    have e2 := h0 2 (by kernel_rfl)
    conv at e2 => rhs; whnf
    clear hE h0
    refine yes_of (want_free rfl) ?_
    go_simp; exact hK _ _ (gb_refl _ _) rfl
  -- 1: join.go:20 load
  apply told_is
  · intro W f hW hE h0 K hK
    have e5 : f 5 = _ := hE 0 5 _ rfl (by kernel_rfl)
    clear hE h0
    refine yes_of (want_free rfl) ?_
    obtain ⟨z0, z1, z2, z3⟩ := HC.out W hW
    go_simp; exact hK _ _ (gb_refl _ _) rfl
  -- 2: join.go:20 fieldAddr
  apply told_is
  · intro W f hW hE h0 K hK
    have e3 := h0 3 (by kernel_rfl)
    conv at e3 => rhs; whnf
    clear hE h0
    refine yes_of (want_free rfl) ?_
    go_simp; exact hK _ _ (gb_refl _ _) rfl
  -- 3: join.go:20 load
  apply told_is
  · intro W f hW hE h0 K hK
    have e7 : f 7 = _ := hE 0 7 _ rfl (by kernel_rfl)
    clear hE h0
    refine yes_of (want_free rfl) ?_
    obtain ⟨z0, z1, z2, z3⟩ := HC.out W hW
    go_simp; exact hK _ _ (gb_refl _ _) rfl
  -- 4: join.go:20 call
  apply told_at unV_stays
  · intro W f hW hE h0 K hK
    have e6 : f 6 = _ := hE 2 6 _ rfl (by kernel_rfl)
    have e8 : f 8 = _ := hE 0 8 _ rfl (by kernel_rfl)
    clear hE h0
    refine yes_of (want_free rfl) ?_
    go_simp
    refine (pUnion_any A A' p c q c' s.seen t.seen W (Hs.out.1.keep hW) (Ht.out.1.keep hW) HSS.out.1.1 HSS.out.2.1 (by have := Hb.out; omega) (by have := Hb.out; omega) (by have := Hb.out; omega)).mono ?_
    rintro e w1' ⟨A2, c2, he, f2, h2, g⟩; rw [Hus.out] at he f2 h2; rw [HLu.out] at he f2 h2; subst he
    exact ⟨_, rfl, hK _ _ g ⟨A2, c2, rfl, f2, h2.2⟩⟩
  -- 5: join.go:20 load
  apply told_is
  · intro W f hW hE h0 K hK
    have e2 := h0 2 (by kernel_rfl)
    conv at e2 => rhs; whnf
    clear hE h0
    refine yes_of (want_free rfl) ?_
    obtain ⟨z0, z1, z2, z3⟩ := HC.out W hW
    go_simp; exact hK _ _ (gb_refl _ _) rfl
  -- 6: join.go:20 load
  apply told_is
  · intro W f hW hE h0 K hK
    have e3 := h0 3 (by kernel_rfl)
    conv at e3 => rhs; whnf
    clear hE h0
    refine yes_of (want_free rfl) ?_
    obtain ⟨z0, z1, z2, z3⟩ := HC.out W hW
    go_simp; exact hK _ _ (gb_refl _ _) rfl
  -- 7: join.go:20 call
  apply told_at factsV_stays
  · intro W f hW hE h0 K hK
    have e10 : f 10 = _ := hE 1 10 _ rfl (by kernel_rfl)
    have e11 : f 11 = _ := hE 0 11 _ rfl (by kernel_rfl)
    clear hE h0
    refine yes_of (want_free rfl) ?_
    go_simp
    refine (left_any A B A' B' p c n d q c' m d' s t W (Hs.out.keep hW) (Ht.out.keep hW) HSS.out.1 HSS.out.2 (by have := Hb.out; omega) (by have := Hb.out; omega) (by have := Hb.out; omega) (by have := Hb.out; omega) (by have := Hb.out; omega) (by have := Hb.out; omega)).mono ?_
    rintro e w1' ⟨A2, c2, he, f2, h2, g⟩; rw [Hfl.out] at he f2 h2; rw [HLf.out] at he f2 h2; subst he
    exact ⟨_, rfl, hK _ _ g ⟨A2, c2, rfl, f2, h2⟩⟩
  -- 8: join.go:20 build
  apply told_at joinV_stays
  · intro W f hW hE h0 K hK
    have e9 := hE 3 9 _ rfl (by kernel_rfl)
    have e12 := hE 0 12 _ rfl (by kernel_rfl)
    clear hE h0
    refine yes_of (want_free rfl) ?_
    obtain ⟨A2, c2, e9, r2, k2⟩ := e9
    obtain ⟨A3, c3, e12, r3, k3⟩ := e12
    go_simp
    exact hK _ _ (gb_refl _ _) ⟨A2, c2, A3, c3, rfl, r2, k2, r3, k3⟩
  intro W f hW hA
  simp only [lexIn, Act.put, List.setIfInBounds_toArray, List.set_cons_zero, List.set_cons_succ]
  have e13 := hA 0 (some 13) _ rfl
  clear hA
  obtain ⟨A2, c2, A3, c3, e13, r2, k2, r3, k3⟩ := e13
  rw [e13]
  have hr := HR2.out.kept hW (by simp)
  have q0 := hr.free 0
  have q1 := hr.free 1
  have u0 := hr.at_ (i := 0) rfl
  have u1 := hr.at_ (i := 1) rfl
  have g1 := gb_set1 W (h0 + 1 + 1) 0 (.slice A2 Lu c2)
  have x1 := hr.set_ 0 (.slice A2 Lu c2)
  have g2 := gb_set1 (W.setCell ⟨h0 + 1 + 1, 0, none⟩ (.slice A2 Lu c2)) (h0 + 1 + 1) 1 (.slice A3 L c3)
  have x2 := x1.set_ 1 (.slice A3 L c3)
  have hsl : SL W A2 Lu A3 L (joinS s t) := ⟨by show RL W A2 Lu (unionR s.seen t.seen); rw [Hus.out]; exact r2, by show FL W A3 L (joinF s t); rw [Hfl.out]; exact r3⟩
  have Hsl := Lib.hid (sl_beside (sl_beside hsl g1 hr) g2 x1)
  have Hx2 := Lib.hid x2
  have Hgg := Lib.hid (gb_new (gb_new (gb_none HG.out hW) g1 Hh0.out) g2 Hh0.out)
  have Hk : Hid (Lu ≤ c2 ∧ L ≤ c3) := ⟨k2, k3⟩
  clear g1 g2 x1 x2 hsl r2 r3 k2 k3 hW
  rw [ends_is]
  go_simp
  clear q0 q1 u0 u1 hr
  go_wp2_with fail
  refine bodyPost_ret (results_cell_row rfl _ _ (h0 + 1 + 1) 28 _ (0, 0) _ rfl Hx2.out Tryd.underlying28 rfl (by kernel_rfl)) rfl ⟨A2, Lu, c2, A3, L, c3, rfl, Hsl.out, Hk.out.1, Hk.out.2, Hgg.out⟩
end Go.Proofs.YtbdpckphlagijaaDoor.Dt
