/- The program's Of. -/
import Derived.Test.YtkibojoochlggaaDtSort
import Derived.Test.YtkibojoochlggaaDtJoin
import Derived.Test.YtkibojoochlggaaDtOf
import Derived.Test.YtkibojoochlggaaDtPUni
namespace Go.Proofs.Ytkibojoochlggaa.Dt
open Go Go.RowKit Go.Proofs.Ytkibojoochlggaa.Mm

theorem dl_at {w : World} {g o n : Nat} {l : List (Int × Int)} (h : DL w (some ⟨g, o, none⟩) n l) {i : Nat} {x : Int × Int} (hx : l[i]? = some x) : w.cell? ⟨g, o + i * 2, none⟩ = some (.int .i64 x.1) ∧ w.cell? ⟨g, o + i * 2 + 1, none⟩ = some (.int .i64 x.2) := by
  have hi : i < l.length := (List.getElem?_eq_some_iff.1 hx).1
  obtain ⟨g', o', e, _, hc⟩ := h.2 (by have := h.1; omega)
  cases e
  exact hc i x hx
set_option maxHeartbeats 16000000 in
set_option maxRecDepth 100000 in
theorem pOf_any (A : Option Addr) (n c : Nat) (l : List (Int × Int)) (w : World) (hl : DL w A n l) (hn : n ≤ 50000) :
    Calls Try.prog 13 #[.slice A n c] w (Runs (ofR [] l) w) := by
  obtain ⟨i0, hi0, hz0, hz1, hz2⟩ := info_parts run_inf
  have Hi0 := Lib.hid hi0
  have Hz0 := Lib.hid hz0
  have Hz1 := Lib.hid hz1
  have Hz2 := Lib.hid hz2
  clear hi0 hz0 hz1 hz2
  have Hl := Lib.hid hl
  clear hl
  go_enter Try.func13, Try.ntmps13
  go_wp2_with fail
  go_loopw [12, 3] (fun i v wr => ∃ (k : Nat) (S : List Rn) (A1 : Option Addr) (c1 : Nat), k ≤ n ∧ i = .int .i64 k ∧ Hid (S = singles (l.take k)) ∧ v = .slice A1 S.length c1 ∧ wr.ownsRow w.heap.size 41 3 (.slice A1 S.length c1) S.length (rv S) ∧ w.grownBy wr none) (fun i _ _ => n - (intOf i).toNat)
  case atStart => exact ⟨0, [], none, 0, Nat.zero_le _, rfl, rfl, rfl, World.ownsRow_nil _ _ _ _, gb_refl _ _⟩
  case round =>
    obtain ⟨k, S, A1, c1, hk, rfl, HS, rfl, hown, hg⟩ := hrel
    have hSl : S.length ≤ 50000 := by
      have h1 := HS.out
      have h2 := singles_len (l.take k)
      rw [← h1, List.length_take] at h2
      omega
    by_cases hlt : k < n
    · have d1 : decide (k < n) = true := decide_eq_true hlt
      have d2 : decide ((k : Int) < (n : Int)) = true := decide_eq_true (by omega)
      have bk : (k : Int) < (n : Int) := by omega
      have hDL := Hl.out.keep hg
      obtain ⟨g, o, rfl, hgl, _⟩ := hDL.2 (by omega)
      obtain ⟨x, hx⟩ : ∃ x, l[k]? = some x := ⟨_, List.getElem?_eq_getElem (by rw [Hl.out.1]; exact hlt)⟩
      obtain ⟨h0, h1⟩ := dl_at hDL hx
      have Hmore := Lib.hid (singles_more hx)
      have own1 := hown.alloc (.cells #[.int .i64 x.1, .int .i64 x.2] 25)
      have Hown1 := Lib.hid own1
      have Hg1 := Lib.hid (gb_alloc hg (.cells #[.int .i64 x.1, .int .i64 x.2] 25))
      clear hDL hx own1 hown hg
      go_upto_region 6 with (go_at_call 28; refine (single_any x.1 x.2 _).mono ?_; rintro e w1 ⟨rfl, g1⟩)
      have own2 : w1.ownsRow w.heap.size 41 3 (.slice A1 S.length c1) S.length (rv S) := World.ownsRow.kept Hown1.out g1.gb (by cases hv : Value.ownBlock _ with | none => exact .inl rfl | some q => exact .inr (by simp))
      have hg2 : w.grownBy w1 none := gb_none Hg1.out g1.gb
      obtain ⟨W5, hW5⟩ : ∃ W5, w1.alloc (.cells #[.int .i64 x.1, .int .i64 x.2, .int .i64 x.2] 41) = W5 := ⟨_, rfl⟩
      have hr5 : Row W5 w1.heap.size 41 #[.int .i64 x.1, .int .i64 x.2, .int .i64 x.2] := by rw [← hW5]; exact Row.new _ _ _
      have own5 : W5.ownsRow w.heap.size 41 3 (.slice A1 S.length c1) S.length (rv S) := by rw [← hW5]; exact own2.alloc _
      have Hg5 : Hid (w.grownBy W5 none) := by show World.grownBy _ _ _; rw [← hW5]; exact gb_alloc hg2 _
      rw [hW5]
      clear hW5 own2 hg2 g1 Hown1 Hg1 h0 h1
      generalize w1.heap.size = D5 at *
      have q0 := hr5.at_ (i := 0) rfl
      have q1 := hr5.at_ (i := 1) rfl
      have q2 := hr5.at_ (i := 2) rfl
      have Hr5 := Lib.hid hr5
      have Hown5 := Lib.hid own5
      obtain ⟨sv, hsv⟩ : ∃ sv : Bool, decide (Ok ⟨x.1, x.2, x.2⟩) = sv := ⟨_, rfl⟩
      have Hsv := Lib.hid hsv
      clear hr5 own5 hsv
      go_upto_if 19 with (go_at_call 26; refine (stands_any ⟨x.1, x.2, x.2⟩ _).mono ?_; rintro e w6 ⟨he, g6⟩; rw [Hsv.out] at he; subst he)
      have hr6 := Hr5.out.kept g6.gb (by simp)
      have own6 : w6.ownsRow w.heap.size 41 3 (.slice A1 S.length c1) S.length (rv S) := World.ownsRow.kept Hown5.out g6.gb (by cases hv : Value.ownBlock _ with | none => exact .inl rfl | some q => exact .inr (by simp))
      have Hg6 : Hid (w.grownBy w6 none) := gb_none Hg5.out g6.gb
      clear q0 q1 q2 g6 Hg5 Hr5 Hown5
      cases sv with
      | true =>
        have q0 := hr6.at_ (i := 0) rfl
        have q1 := hr6.at_ (i := 1) rfl
        have q2 := hr6.at_ (i := 2) rfl
        have hb6 : w.heap.size ≤ w6.heap.size := Hg6.out.size
        have Hm : Hid (S.length + 1 ≤ maxLen ∧ (S.length + 1) * 24 ≤ 140737488355328) := by show _ ∧ _; simp only [maxLen]; omega
        have HS2 : Hid (S ++ [(⟨x.1, x.2, x.2⟩ : Rn)] = singles (l.take (k + 1))) := by show _ = _; rw [Hmore.out, if_pos (of_decide_eq_true Hsv.out), HS.out]
        clear hr6
        go_wp2_with (at_builtin; refine wpList_append_lies _ rfl (.tmp 20) (.tmp 22) 22 rfl w.heap.size 41 i0 (.agg #[.int .i64 0, .int .i64 0, .int .i64 0]) 3 24 Try.underlying22 Hi0.out Hz0.out Hz1.out Hz2.out rfl (by decide) _ S.length _ rfl (own6.alloc _) ⟨w6.heap.size, 0, none⟩ 1 1 [.int .i64 x.1, .int .i64 x.2, .int .i64 x.2] rfl rfl (news3 w6 x.1 x.2 x.2 41) (ints3' _ _ _) (by decide) Hm.out.1 Hm.out.2 (by simp; omega) _ rfl ?_; intro g' cap' w' own' hgrow hat hlt')
        have Hg7 : Hid (w.grownBy w' none) := gb_step (gb_alloc Hg6.out _) hgrow (fun i e => .inr (own6.lt i e).1)
        have Hown7 : Hid (w'.ownsRow w.heap.size 41 3 (.slice (some ⟨g', 0, none⟩) (S ++ [(⟨x.1, x.2, x.2⟩ : Rn)]).length cap') (S ++ [(⟨x.1, x.2, x.2⟩ : Rn)]).length (rv (S ++ [(⟨x.1, x.2, x.2⟩ : Rn)]))) := by
          show World.ownsRow _ _ _ _ _ _ _
          rw [List.length_append, rv_append]; exact own'
        have Hlen : Hid ((S ++ [(⟨x.1, x.2, x.2⟩ : Rn)] : List Rn).length = S.length + 1) := by show _ = _; simp
        clear own' hgrow hat hlt' own6
        refine ⟨⟨k + 1, S ++ [(⟨x.1, x.2, x.2⟩ : Rn)], some ⟨g', 0, none⟩, cap', by omega, by go_num, HS2.out, by rw [Hlen.out], Hown7.out, Hg7.out⟩, by simp [intOf]; omega⟩
      | false =>
        have HS2 : Hid (S = singles (l.take (k + 1))) := by show _ = _; rw [Hmore.out, if_neg (of_decide_eq_false Hsv.out), HS.out]
        have Hown6 := Lib.hid own6
        clear hr6 own6
        go_wp2_with fail
        refine ⟨⟨k + 1, S, A1, c1, by omega, by go_num, HS2.out, rfl, Hown6.out, Hg6.out⟩, by simp [intOf]; omega⟩
    · have hkn : k = n := by omega
      subst hkn
      have d1 : decide (k < k) = false := by simp
      have d2 : decide ((k : Int) < (k : Int)) = false := by simp
      have HSa : Hid (S = singles l) := by
        have h := HS.out
        rwa [List.take_of_length_le (by rw [Hl.out.1]; exact Nat.le_refl _)] at h
      have Hsort := Lib.hid (sort_any w.heap.size c1 A1 S wr hown (by omega))
      have hlt1 := fun i e => (hown.lt i e).1
      have Hlt1 := Lib.hid hlt1
      have Hg := Lib.hid hg
      clear hown hg hlt HS hlt1
      go_wp2_with (go_at_call 29; refine Hsort.out.mono ?_; rintro e w1 ⟨rfl, S', hl', hm', hp', own1, g1⟩)
      have HG1 : Hid (w.grownBy w1 none) := gb_step Hg.out g1 (fun i e => .inr (Hlt1.out i e))
      have HSl : S.length ≤ 50000 := hSl
      have hRL : RL w1 A1 S.length S' := by
        rw [hl'] at own1
        obtain ⟨A3, c3, hv, hR, _⟩ := own_rl own1 hl'
        cases hv; exact hR
      generalize S.length = L at *
      have Hp := Lib.hid hp'
      have HM : Hid (∀ r, r ∈ S' ↔ r ∈ singles l) := fun r => by rw [hm' r, HSa.out]
      have HO : Hid (∀ x ∈ S', Ok x) := fun x hx => singles_ok l x ((HM.out x).1 hx)
      have HRL := Lib.hid hRL
      have HB1 : Hid (w.heap.size ≤ w1.heap.size) := HG1.out.size
      have HL' := Lib.hid hl'
      clear hl' hm' hp' own1 g1 hRL Hsort Hlt1 Hg HSa
      go_wp2_with fail
      obtain ⟨W1, rfl⟩ : ∃ W1, W1 = w1 := ⟨_, rfl⟩
      clear d1 d2 hSl
      go_loopw [29, 7] (fun i v wr => ∃ (q : Nat) (rs : List Rn) (A2 : Option Addr) (c2 : Nat), q ≤ L ∧ i = .int .i64 q ∧ Hid (OI S' q rs) ∧ v = .slice A2 rs.length c2 ∧ wr.ownsRow W1.heap.size 41 3 (.slice A2 rs.length c2) rs.length (rv rs.reverse) ∧ Hid (rs = [] → A2 = none ∧ c2 = 0) ∧ W1.grownBy wr none) (fun i _ _ => L - (intOf i).toNat)
      case atStart => exact ⟨0, [], none, 0, Nat.zero_le _, rfl, OI.start _, rfl, World.ownsRow_nil _ _ _ _, fun _ => ⟨rfl, rfl⟩, gb_refl _ _⟩
      case round =>
        obtain ⟨q, rs, A2, c2, hq, rfl, HU, rfl, hown, HV, hg⟩ := hrel
        have hlen : rs.length ≤ 50000 := by have := HU.out.len; omega
        by_cases hql : q < L
        · have d1 : decide (q < L) = true := decide_eq_true hql
          have d2 : decide ((q : Int) < (L : Int)) = true := decide_eq_true (by omega)
          have bk : (q : Int) < (L : Int) := by omega
          have hRL := HRL.out.keep hg
          obtain ⟨gB, oB, rfl, hgl, _⟩ := hRL.2 (by omega)
          obtain ⟨y, hy⟩ : ∃ y, S'[q]? = some y := ⟨_, List.getElem?_eq_getElem (by rw [HL'.out]; exact hql)⟩
          obtain ⟨h0, h1, h2⟩ := rl_at3 hRL hy
          have HU2 : Hid (OI S' (q + 1) (jn rs y)) := HU.out.step HO.out Hp.out hy
          have Hs5 : Hid (∀ s ∈ rs, Ok s) := HU.out.may.1
          have Hoy : Hid (Ok y) := HO.out y (List.mem_of_getElem? hy)
          have hBW : W1.heap.size ≤ wr.heap.size + 1 := by have := hg.size; omega
          have Hown := Lib.hid hown
          have Hg := Lib.hid hg
          clear hown hg hy hRL
          go_wp2_with (go_at_call 31; refine (joined_any W1.heap.size A2 rs.length c2 rs y _ (by exact Hown.out.alloc _) rfl (by simp; omega) Hs5.out Hoy.out (by omega)).mono ?_; rintro e w3 ⟨A3, c3, rfl, own2, g2, hat2⟩)
          have Hg6 : Hid (W1.grownBy w3 none) := gb_step (gb_alloc Hg.out _) g2 (fun i e => .inr (Hown.out.lt i e).1)
          have Hown6 := Lib.hid own2
          clear own2 g2 hat2
          exact ⟨⟨q + 1, jn rs y, A3, c3, by omega, by go_num, HU2.out, rfl, Hown6.out, (fun h => absurd (jn_len rs y).2 (by rw [h]; decide)), Hg6.out⟩, by simp [intOf]; omega⟩
        · have hqL : q = L := by omega
          have d1 : decide (q < L) = false := decide_eq_false hql
          have d2 : decide ((q : Int) < (L : Int)) = false := decide_eq_false (by omega)
          have Hfin : Hid (rs.reverse = ofR [] l) := HU.out.fin HM.out (by rw [HL'.out]; omega)
          obtain ⟨A3, c3, hv, hR, hc3⟩ := own_rl (l := rs.reverse) hown (by simp)
          cases hv
          have HR := Lib.hid hR
          have Hg : Hid (w.grownBy wr none) := gb_none HG1.out hg
          have Hc3 := Lib.hid hc3
          clear hR hown hg hc3 hql
          go_wp2_with fail
          go_ret
          have el : (ofR [] l).length = rs.length := by rw [← Hfin.out, List.length_reverse]
          refine ⟨A2, c2, by rw [el]; rfl, by rw [el, ← Hfin.out]; exact HR.out, ⟨fun h => HV.out (List.eq_nil_of_length_eq_zero (by rw [← el]; exact h)), by rw [el]; exact Hc3.out⟩, Hg.out⟩
end Go.Proofs.Ytkibojoochlggaa.Dt
