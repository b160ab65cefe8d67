/- Two states together, fact by fact: what a merge holds to, as plain lists. The document's at, goes; the laws' Op. A deed, case by case; what a walk over it holds to. No program. -/
import Derived.Test.YthijiefopcnclaaGreatDoorFtMay
import Derived.Test.YthijiefopcnclaaGreatDoorFtB
import Derived.Test.YthijiefopcnclaaGreatDoorFtA
import Derived.Test.YthijiefopcnclaaGreatDoorTdA
import Derived.Laws.Small
namespace Go.Proofs.YthijiefopcnclaaGreatDoor.Dt

/-- As far as i facts of one and k of the other have been looked at. -/
structure JI (s t : St) (i k : Nat) (L : List Fc) : Prop where
  sor : Sor L
  mem : ∀ f, f ∈ L ↔ (f ∈ s.facts.take i ∧ stayA s t f = true) ∨ (f ∈ t.facts.take k ∧ stayB s f = true)
  na : ∀ f ∈ L, ∀ g ∈ s.facts.drop i, FLt f g
  nb : ∀ f ∈ L, ∀ g ∈ t.facts.drop k, ¬ FLt g f
theorem ji_nil (s t : St) : JI s t 0 0 [] := ⟨List.Pairwise.nil, fun f => by simp, fun f h => by simp at h, fun f h => by simp at h⟩
theorem fdrop_eq {l : List Fc} {k : Nat} {x : Fc} (h : l[k]? = some x) : l.drop k = x :: l.drop (k + 1) := by
  obtain ⟨hk, rfl⟩ := List.getElem?_eq_some_iff.1 h
  exact List.drop_eq_getElem_cons hk
theorem Sor.drop {l : List Fc} (h : Sor l) (k : Nat) : Sor (l.drop k) := h.sublist (List.drop_sublist k l)
theorem flt_tot {x y : Fc} (h : ¬ (x.d = y.d ∧ x.n = y.n)) (h2 : ¬ FLt y x) : FLt x y := by unfold FLt Lt at *; omega
/-- The next of the first is looked at. -/
theorem JI.a_ {s t : St} {i k : Nat} {L : List Fc} {x : Fc} (h : JI s t i k L) (hs : SS s) (ht : SS t) (hx : s.facts[i]? = some x) (hle : ∀ y, t.facts[k]? = some y → ¬ FLt y x) (hst : stayA s t x = true) : JI s t (i + 1) k (L ++ [x]) := by
  have hd := fdrop_eq hx
  have hsd := hs.2.2.drop i
  rw [hd] at hsd
  have hnb : ∀ g ∈ t.facts.drop k, ¬ FLt g x := by
    cases hy : t.facts[k]? with
    | none => rw [List.drop_eq_nil_of_le (List.getElem?_eq_none_iff.1 hy)]; intro g hg; cases hg
    | some y =>
      have htd := ht.2.2.drop k
      rw [fdrop_eq hy] at htd ⊢
      intro g hg hlt
      rcases List.mem_cons.1 hg with e | h1
      · subst e; exact hle _ hy hlt
      · exact hle _ hy ((htd.head g h1).trans hlt)
  refine ⟨List.pairwise_append.2 ⟨h.sor, List.pairwise_singleton _ _, fun f hf b hb => ?_⟩, fun f => ?_, fun f hf g hg => ?_, fun f hf g hg => ?_⟩
  · rw [List.mem_singleton.1 hb]; exact h.na f hf x (by rw [hd]; simp)
  · rw [List.mem_append, h.mem, ftake_more hx, List.mem_append, List.mem_singleton]
    constructor
    · rintro ((h1 | h1) | h1)
      · exact .inl ⟨.inl h1.1, h1.2⟩
      · exact .inr h1
      · subst h1; exact .inl ⟨.inr rfl, hst⟩
    · rintro (⟨h1 | h1, h2⟩ | h1)
      · exact .inl (.inl ⟨h1, h2⟩)
      · exact .inr h1
      · exact .inl (.inr h1)
  · rcases List.mem_append.1 hf with h1 | h1
    · exact h.na f h1 g (by rw [hd]; simp [hg])
    · rw [List.mem_singleton.1 h1]; exact hsd.head g hg
  · rcases List.mem_append.1 hf with h1 | h1
    · exact h.nb f h1 g hg
    · rw [List.mem_singleton.1 h1]; exact hnb g hg
theorem JI.skipA {s t : St} {i k : Nat} {L : List Fc} {x : Fc} (h : JI s t i k L) (hx : s.facts[i]? = some x) (hst : stayA s t x = false) : JI s t (i + 1) k L := by
  have hd := fdrop_eq hx
  refine ⟨h.sor, fun f => ?_, fun f hf g hg => h.na f hf g (by rw [hd]; simp [hg]), h.nb⟩
  rw [h.mem, ftake_more hx, List.mem_append, List.mem_singleton]
  constructor
  · rintro (h1 | h1)
    · exact .inl ⟨.inl h1.1, h1.2⟩
    · exact .inr h1
  · rintro (⟨h1 | h1, h2⟩ | h1)
    · exact .inl ⟨h1, h2⟩
    · subst h1; rw [hst] at h2; cases h2
    · exact .inr h1
/-- The next of the other is looked at. -/
theorem JI.b_ {s t : St} {i k : Nat} {L : List Fc} {y : Fc} (h : JI s t i k L) (hs : SS s) (ht : SS t) (hy : t.facts[k]? = some y) (hlt : ∀ x, s.facts[i]? = some x → FLt y x) (hst : stayB s y = true) : JI s t i (k + 1) (L ++ [y]) := by
  have hd := fdrop_eq hy
  have htd := ht.2.2.drop k
  rw [hd] at htd
  have hsy : ¬ Has s.seen y.d y.n := by
    unfold stayB at hst
    intro hh
    rw [(hasB_iff _ _ _).2 hh] at hst; cases hst
  have hna : ∀ g ∈ s.facts.drop i, FLt y g := by
    cases hx : s.facts[i]? with
    | none => rw [List.drop_eq_nil_of_le (List.getElem?_eq_none_iff.1 hx)]; intro g hg; cases hg
    | some x =>
      have hsd := hs.2.2.drop i
      rw [fdrop_eq hx] at hsd ⊢
      intro g hg
      rcases List.mem_cons.1 hg with e | h1
      · subst e; exact hlt _ hx
      · exact (hlt _ hx).trans (hsd.head g h1)
  refine ⟨List.pairwise_append.2 ⟨h.sor, List.pairwise_singleton _ _, fun f hf b hb => ?_⟩, fun f => ?_, fun f hf g hg => ?_, fun f hf g hg => ?_⟩
  · rw [List.mem_singleton.1 hb]
    have h2 := h.nb f hf y (by rw [hd]; simp)
    rcases (h.mem f).1 hf with h1 | h1
    · exact flt_tot (fun e => hsy (by rw [← e.1, ← e.2]; exact hs.2.1 f (List.mem_of_mem_take h1.1))) h2
    · obtain ⟨j, hj⟩ := List.mem_iff_getElem?.1 h1.1
      rw [List.getElem?_take] at hj
      split at hj
      · rename_i hjk
        obtain ⟨q1, rfl⟩ := List.getElem?_eq_some_iff.1 hj
        obtain ⟨q2, rfl⟩ := List.getElem?_eq_some_iff.1 hy
        exact List.pairwise_iff_getElem.1 ht.2.2 j k q1 q2 hjk
      · cases hj
  · rw [List.mem_append, h.mem, ftake_more hy, List.mem_append, List.mem_singleton]
    constructor
    · rintro ((h1 | h1) | h1)
      · exact .inl h1
      · exact .inr ⟨.inl h1.1, h1.2⟩
      · subst h1; exact .inr ⟨.inr rfl, hst⟩
    · rintro (h1 | ⟨h1 | h1, h2⟩)
      · exact .inl (.inl h1)
      · exact .inl (.inr ⟨h1, h2⟩)
      · exact .inr h1
  · rcases List.mem_append.1 hf with h1 | h1
    · exact h.na f h1 g hg
    · rw [List.mem_singleton.1 h1]; exact hna g hg
  · rcases List.mem_append.1 hf with h1 | h1
    · exact h.nb f h1 g (by rw [hd]; simp [hg])
    · rw [List.mem_singleton.1 h1]; exact fun q => (htd.head g hg).asym q
theorem JI.skipB {s t : St} {i k : Nat} {L : List Fc} {y : Fc} (h : JI s t i k L) (hy : t.facts[k]? = some y) (hst : stayB s y = false) : JI s t i (k + 1) L := by
  have hd := fdrop_eq hy
  refine ⟨h.sor, fun f => ?_, h.na, fun f hf g hg => h.nb f hf g (by rw [hd]; simp [hg])⟩
  rw [h.mem, ftake_more hy, List.mem_append, List.mem_singleton]
  constructor
  · rintro (h1 | h1)
    · exact .inl h1
    · exact .inr ⟨.inl h1.1, h1.2⟩
  · rintro (h1 | ⟨h1 | h1, h2⟩)
    · exact .inl h1
    · exact .inr ⟨h1, h2⟩
    · subst h1; rw [hst] at h2; cases h2
/-- All have been looked at. -/
theorem JI.done {s t : St} {i k : Nat} {L : List Fc} (h : JI s t i k L) (hs : SS s) (ht : SS t) (hi : s.facts.length ≤ i) (hk : t.facts.length ≤ k) : L = joinF s t :=
  is_join hs ht h.sor fun f => by
    rw [h.mem, List.take_of_length_le hi, List.take_of_length_le hk]
theorem cmp_le {x y : Fc} : decide (cmpD x.d x.n y.d y.n ≤ 0) = !decide (FLt y x) := by
  by_cases h1 : FLt x y
  · have h2 : ¬ FLt y x := fun h => h1.asym h
    rw [cmp_lt h1, decide_eq_false h2]; rfl
  · by_cases h2 : x.d = y.d ∧ x.n = y.n
    · have h3 : ¬ FLt y x := fun h => h.irr ⟨h2.1.symm, h2.2.symm⟩
      rw [cmp_is h1 h2, decide_eq_false h3]; rfl
    · have h3 : FLt y x := flt_tot (fun e => h2 ⟨e.1.symm, e.2.symm⟩) h1
      rw [cmp_gt h1 h2, decide_eq_true h3]; rfl
end Go.Proofs.YthijiefopcnclaaGreatDoor.Dt

namespace Go.Proofs.YthijiefopcnclaaGreatDoor.Dt
open Go Go.RowKit Go.Proofs.YthijiefopcnclaaGreatDoor.Wd Go.Proofs.YthijiefopcnclaaGreatDoor.Mm Go.Proofs.YthijiefopcnclaaGreatDoor.Td Go.Proofs.YthijiefopcnclaaGreatDoor.Zr

theorem atB_more {l : List Fc} {k : Nat} {x : Fc} (h : l[k]? = some x) (d n : Int) : atB (l.take (k + 1)) d n = (atB (l.take k) d n || decide (x.d = d ∧ x.n = n)) := by
  rw [ftake_more h]; unfold atB; rw [List.any_append]; simp
theorem atB_true {l : List Fc} {k : Nat} {x : Fc} (h : l[k]? = some x) {d n : Int} (hd : x.d = d) (hn : x.n = n) : atB l d n = true := (atB_iff l d n).2 ⟨x, List.mem_of_getElem? h, hd, hn⟩

set_option maxHeartbeats 8000000 in
set_option maxRecDepth 100000 in
theorem refAt_any (A B : Option Addr) (p c n e : Nat) (s : St) (d m : Int) (w : World) (hs : SL w A p B n s) (hn : n ≤ 1099511627776) :
    Calls Tryz.prog 62 #[.agg #[.slice A p c, .slice B n e], .agg #[.int .i64 d, .int .i64 m]] w fun r w' => r = .returned (.bool (atB s.facts d m)) ∧ w.grownBy w' none := by
  obtain ⟨rs, l⟩ := s
  obtain ⟨W0, hW0⟩ : ∃ W0, (w.alloc (.cells #[.slice A p c, .slice B n e] 25)).alloc (.cells #[.int .i64 d, .int .i64 m] 44) = W0 := ⟨_, rfl⟩
  have G0 : w.grownBy W0 none := by rw [← hW0]; exact gb_alloc (gb_alloc (gb_refl _ _) _) _
  have hr0 : Row W0 w.heap.size 25 #[.slice A p c, .slice B n e] := by rw [← hW0]; exact (Row.new _ _ _).alloc _
  have hr1 : Row W0 (w.heap.size + 1) 44 #[.int .i64 d, .int .i64 m] := by
    rw [← hW0]
    have h := Row.new (w.alloc (.cells #[.slice A p c, .slice B n e] 25)) 44 #[.int .i64 d, .int .i64 m]
    rwa [World.size_alloc] at h
  have HC : Hid (∀ W, W0.grownBy W none → W.cell? ⟨w.heap.size, 0, none⟩ = some (.slice A p c) ∧ W.cell? ⟨w.heap.size, 1, none⟩ = some (.slice B n e) ∧ W.cell? ⟨w.heap.size + 1, 0, none⟩ = some (.int .i64 d) ∧ W.cell? ⟨w.heap.size + 1, 1, none⟩ = some (.int .i64 m)) :=
    fun W hW => ⟨(hr0.kept hW (by simp)).at_ (i := 0) rfl, (hr0.kept hW (by simp)).at_ (i := 1) rfl, (hr1.kept hW (by simp)).at_ (i := 0) rfl, (hr1.kept hW (by simp)).at_ (i := 1) rfl⟩
  have Hl := Lib.hid (hs.keep G0).2
  have HG := Lib.hid G0
  clear hr0 hr1 hs G0
  go_enter Tryz.func62, Tryz.ntmps62
  go_upto_region 1 with fail
  clear hW0
  go_wp2_with fail
  go_loopw [5] (fun i wr => ∃ k : Nat, k ≤ n ∧ i = .int .i64 k ∧ Hid (atB (l.take k) d m = false) ∧ W0.grownBy wr none) (fun i _ => n - (intOf i).toNat)
  case atStart => exact ⟨0, Nat.zero_le _, rfl, by show _ = _; rfl, gb_refl _ _⟩
  case round =>
    obtain ⟨k, hk, rfl, HX, hg⟩ := hrel
    obtain ⟨y0, y1, y2, y3⟩ := HC.out wr hg
    by_cases hlt : k < n
    · have d1 : decide (k < n) = true := decide_eq_true hlt
      have d2 : decide ((k : Int) < (n : Int)) = true := decide_eq_true (by omega)
      have bk : (k : Int) < (n : Int) := by omega
      obtain ⟨g, o, rfl, hgl, hcc⟩ := (Hl.out.keep hg).2 (by omega)
      obtain ⟨x, hx⟩ : ∃ x, l[k]? = some x := ⟨_, List.getElem?_eq_getElem (by rw [Hl.out.1]; exact hlt)⟩
      obtain ⟨h0, h1, h2, h3, h4, h5⟩ := hcc k x hx
      have Hx := Lib.hid hx
      clear hcc hx h2 h3 h4 h5
      have hq := fun (W : World) => dotT_eql x.d x.n d m W
      have hG := dotT_guard
      by_cases e1 : x.d = d ∧ x.n = m
      · have q4 : eqD x.d x.n d m = true := (eqD_iff _ _ _ _).2 e1
        rw [q4] at hq
        have Hyes : Hid (atB l d m = true) := atB_true Hx.out e1.1 e1.2
        clear e1 q4
        go_wp2_with fail
        go_quiet (fail)
        go_wp2_with fail
        go_ret
        exact ⟨by rw [Hyes.out]; rfl, gb_drewN (gb_none HG.out hg) _⟩
      · have q4 : eqD x.d x.n d m = false := by rw [Bool.eq_false_iff, ne_eq, eqD_iff]; exact e1
        rw [q4] at hq
        have Hno : Hid (atB (l.take (k + 1)) d m = false) := by
          show _ = _
          rw [atB_more Hx.out, HX.out, decide_eq_false e1, Bool.or_false]
        clear e1 q4
        go_wp2_with fail
        go_quiet (fail)
        go_wp2_with fail
        go_roundw
        case rel => exact ⟨k + 1, by omega, by go_num, Hno, gb_drewN hg _⟩
        case measure => simp [intOf]; omega
    · have hkn : k = n := by omega
      subst hkn
      have d1 : decide (k < k) = false := by simp
      have d2 : decide ((k : Int) < (k : Int)) = false := by simp
      have He : Hid (atB l d m = false) := by
        show _ = _
        rw [← HX.out, List.take_of_length_le (by rw [Hl.out.1]; exact Nat.le_refl _)]
      have Hend := Lib.hid (gb_none HG.out hg)
      go_wp2_with fail
      go_ret
      exact ⟨by rw [He.out]; rfl, Hend.out⟩

set_option maxHeartbeats 8000000 in
set_option maxRecDepth 100000 in
theorem refGoes_any (x : Fc) (dev : Int) (o : Opn) (w : World) : Calls Tryz.prog 63 #[.agg #[.int .i64 x.d, .int .i64 x.n, .string x.key, .int .i64 x.kind, .string x.item, .int .i64 x.v], .int .i64 dev, .agg #[.int .i64 o.kind, .string o.key, .string o.item, .int .i64 o.v]] w fun e w' => e = .returned (.bool (goesB x dev o)) ∧ w.grownBy w' none := by
  by_cases hkey : x.key = o.key
  · have t1 := str_eq hkey
    by_cases k1 : o.kind = 1
    · have q1 : (o.kind == 1) = true := by rw [k1]; rfl
      by_cases f1 : x.kind = 1
      · have p1 : (x.kind == 1) = true := by rw [f1]; rfl
        have HE : Hid (goesB x dev o = true) := by exact decide_eq_true (by unfold Goes; exact ⟨hkey, .inl ⟨k1, f1⟩⟩)
        rw [HE.out]
        clear hkey k1 f1
        go_enter Tryz.func63, Tryz.ntmps63
        go_wp2_with fail
        go_ret
        exact ⟨rfl, gb_alloc (gb_alloc (gb_refl _ _) _) _⟩
      · have p1 : (x.kind == 1) = false := by rw [beq_eq_false_iff_ne]; exact f1
        have HE : Hid (goesB x dev o = false) := by exact decide_eq_false (by unfold Goes; intro h; omega)
        rw [HE.out]
        clear hkey k1 f1
        go_enter Tryz.func63, Tryz.ntmps63
        go_wp2_with fail
        go_ret
        exact ⟨rfl, gb_alloc (gb_alloc (gb_refl _ _) _) _⟩
    · have q1 : (o.kind == 1) = false := by rw [beq_eq_false_iff_ne]; exact k1
      by_cases k2 : o.kind = 2
      · have q2 : (o.kind == 2) = true := by rw [k2]; rfl
        by_cases f2 : x.kind = 2
        · have p2 : (x.kind == 2) = true := by rw [f2]; rfl
          by_cases hit : x.item = o.item
          · have t2 := str_eq hit
            have HE : Hid (goesB x dev o = true) := by exact decide_eq_true (by unfold Goes; exact ⟨hkey, .inr (.inl ⟨.inl k2, f2, hit⟩)⟩)
            rw [HE.out]
            clear hkey k1 k2 f2 hit
            go_enter Tryz.func63, Tryz.ntmps63
            go_wp2_with fail
            go_ret
            exact ⟨rfl, gb_alloc (gb_alloc (gb_refl _ _) _) _⟩
          · have t2 := str_ne hit
            have HE : Hid (goesB x dev o = false) := by exact decide_eq_false (by unfold Goes; exact fun h => hit (h.2.elim (fun h => by omega) fun h => h.elim (fun h => h.2.2) fun h => by omega))
            rw [HE.out]
            clear hkey k1 k2 f2 hit
            go_enter Tryz.func63, Tryz.ntmps63
            go_wp2_with fail
            go_ret
            exact ⟨rfl, gb_alloc (gb_alloc (gb_refl _ _) _) _⟩
        · have p2 : (x.kind == 2) = false := by rw [beq_eq_false_iff_ne]; exact f2
          have HE : Hid (goesB x dev o = false) := by exact decide_eq_false (by unfold Goes; intro h; omega)
          rw [HE.out]
          clear hkey k1 k2 f2
          go_enter Tryz.func63, Tryz.ntmps63
          go_wp2_with fail
          go_ret
          exact ⟨rfl, gb_alloc (gb_alloc (gb_refl _ _) _) _⟩
      · have q2 : (o.kind == 2) = false := by rw [beq_eq_false_iff_ne]; exact k2
        by_cases k3 : o.kind = 3
        · have q3 : (o.kind == 3) = true := by rw [k3]; rfl
          by_cases f2 : x.kind = 2
          · have p2 : (x.kind == 2) = true := by rw [f2]; rfl
            by_cases hit : x.item = o.item
            · have t2 := str_eq hit
              have HE : Hid (goesB x dev o = true) := by exact decide_eq_true (by unfold Goes; exact ⟨hkey, .inr (.inl ⟨.inr k3, f2, hit⟩)⟩)
              rw [HE.out]
              clear hkey k1 k2 k3 f2 hit
              go_enter Tryz.func63, Tryz.ntmps63
              go_wp2_with fail
              go_ret
              exact ⟨rfl, gb_alloc (gb_alloc (gb_refl _ _) _) _⟩
            · have t2 := str_ne hit
              have HE : Hid (goesB x dev o = false) := by exact decide_eq_false (by unfold Goes; exact fun h => hit (h.2.elim (fun h => by omega) fun h => h.elim (fun h => h.2.2) fun h => by omega))
              rw [HE.out]
              clear hkey k1 k2 k3 f2 hit
              go_enter Tryz.func63, Tryz.ntmps63
              go_wp2_with fail
              go_ret
              exact ⟨rfl, gb_alloc (gb_alloc (gb_refl _ _) _) _⟩
          · have p2 : (x.kind == 2) = false := by rw [beq_eq_false_iff_ne]; exact f2
            have HE : Hid (goesB x dev o = false) := by exact decide_eq_false (by unfold Goes; intro h; omega)
            rw [HE.out]
            clear hkey k1 k2 k3 f2
            go_enter Tryz.func63, Tryz.ntmps63
            go_wp2_with fail
            go_ret
            exact ⟨rfl, gb_alloc (gb_alloc (gb_refl _ _) _) _⟩
        · have q3 : (o.kind == 3) = false := by rw [beq_eq_false_iff_ne]; exact k3
          by_cases k4 : o.kind = 4
          · have q4 : (o.kind == 4) = true := by rw [k4]; rfl
            by_cases f3 : x.kind = 3
            · have p3 : (x.kind == 3) = true := by rw [f3]; rfl
              by_cases fd : x.d = dev
              · have p4 : (x.d == dev) = true := by rw [fd]; simp
                have HE : Hid (goesB x dev o = true) := by exact decide_eq_true (by unfold Goes; exact ⟨hkey, .inr (.inr (.inl ⟨k4, f3, fd⟩))⟩)
                rw [HE.out]
                clear hkey k1 k2 k3 k4 f3 fd
                go_enter Tryz.func63, Tryz.ntmps63
                go_wp2_with fail
                go_ret
                exact ⟨rfl, gb_alloc (gb_alloc (gb_refl _ _) _) _⟩
              · have p4 : (x.d == dev) = false := by rw [beq_eq_false_iff_ne]; exact fd
                have HE : Hid (goesB x dev o = false) := by exact decide_eq_false (by unfold Goes; intro h; omega)
                rw [HE.out]
                clear hkey k1 k2 k3 k4 f3 fd
                go_enter Tryz.func63, Tryz.ntmps63
                go_wp2_with fail
                go_ret
                exact ⟨rfl, gb_alloc (gb_alloc (gb_refl _ _) _) _⟩
            · have p3 : (x.kind == 3) = false := by rw [beq_eq_false_iff_ne]; exact f3
              have HE : Hid (goesB x dev o = false) := by exact decide_eq_false (by unfold Goes; intro h; omega)
              rw [HE.out]
              clear hkey k1 k2 k3 k4 f3
              go_enter Tryz.func63, Tryz.ntmps63
              go_wp2_with fail
              go_ret
              exact ⟨rfl, gb_alloc (gb_alloc (gb_refl _ _) _) _⟩
          · have q4 : (o.kind == 4) = false := by rw [beq_eq_false_iff_ne]; exact k4
            have HE : Hid (goesB x dev o = true) := by exact decide_eq_true (by unfold Goes; exact ⟨hkey, .inr (.inr (.inr ⟨k1, k2, k3, k4⟩))⟩)
            rw [HE.out]
            clear hkey k1 k2 k3 k4
            go_enter Tryz.func63, Tryz.ntmps63
            go_wp2_with fail
            go_ret
            exact ⟨rfl, gb_alloc (gb_alloc (gb_refl _ _) _) _⟩
  · have t1 := str_ne hkey
    have HE : Hid (goesB x dev o = false) := by exact decide_eq_false (by unfold Goes; intro h; exact hkey h.1)
    rw [HE.out]
    clear hkey
    go_enter Tryz.func63, Tryz.ntmps63
    go_wp2_with fail
    go_ret
    exact ⟨rfl, gb_alloc (gb_alloc (gb_refl _ _) _) _⟩

theorem text_b1 {g : Nat} {x : Int} {W : World} (h0 : 0 ≤ x) (h1 : x < 256) (h : Row W g 5 #[.int .u8 x]) : (convert 36 9 (.slice (some ⟨g, 0, none⟩) 1 1)).run Tryz.prog W = .ok (.string (b1 x)) W := by
  have hx : (UInt8.ofNat x.toNat).toNat = x.toNat := by rw [UInt8.toNat_ofNat']; omega
  have e : w8 (UInt8.ofNat x.toNat) = .int .u8 x := by
    unfold w8; rw [hx, Int.toNat_of_nonneg h0]
  exact row_string (l := [UInt8.ofNat x.toNat]) (by show Row W g _ #[w8 (UInt8.ofNat x.toNat)]; rw [e]; exact h) 1
set_option maxHeartbeats 8000000 in
set_option maxRecDepth 100000 in
theorem op_any (a b : Int) (w : World) (a0 : 0 ≤ a) (a1 : a ≤ 255) (b0 : 0 ≤ b) (b1' : b ≤ 255) : Calls Tryz.prog 37 #[.int .u8 a, .int .u8 b] w fun e w' => e = .returned (.agg #[.int .i64 (opN a b).kind, .string (opN a b).key, .string (opN a b).item, .int .i64 (opN a b).v]) ∧ w.grownBy w' none := by
  show Calls _ _ _ _ fun e w' => e = .returned (.agg #[.int .i64 (1 + a % 5), .string (b1 (107 + a / 5 % 3)), .string (b1 (97 + b % 5)), .int .i64 (b - 100)]) ∧ w.grownBy w' none
  obtain ⟨ka, hka⟩ : ∃ ka, 1 + a % 5 = ka := ⟨_, rfl⟩
  obtain ⟨ra, hra⟩ : ∃ ra, a % 5 = ra := ⟨_, rfl⟩
  obtain ⟨qa, hqa⟩ : ∃ qa, a / 5 = qa := ⟨_, rfl⟩
  obtain ⟨ta, hta⟩ : ∃ ta, a / 5 % 3 = ta := ⟨_, rfl⟩
  obtain ⟨X, hX⟩ : ∃ X, 107 + a / 5 % 3 = X := ⟨_, rfl⟩
  obtain ⟨rb, hrb⟩ : ∃ rb, b % 5 = rb := ⟨_, rfl⟩
  obtain ⟨Y, hY⟩ : ∃ Y, 97 + b % 5 = Y := ⟨_, rfl⟩
  obtain ⟨vb, hvb⟩ : ∃ vb, b - 100 = vb := ⟨_, rfl⟩
  rw [hka, hX, hY, hvb]
  have w1 : IntKind.i64.wrap a = a := by rw [IntKind.wrap_i64]; omega
  have w2 : a.tmod 5 = ra := by rw [Int.tmod_eq_emod_of_nonneg a0, hra]
  have w3 : IntKind.i64.wrap (1 + ra) = ka := by rw [IntKind.wrap_i64]; omega
  have w4 : a.tdiv 5 = qa := by rw [Int.tdiv_eq_ediv_of_nonneg a0, hqa]
  have w5 : qa.tmod 3 = ta := by rw [Int.tmod_eq_emod_of_nonneg (by omega), ← hqa, hta]
  have w6 : IntKind.u8.wrap (107 + ta) = X := by rw [IntKind.wrap_u8']; omega
  have w7 : b.tmod 5 = rb := by rw [Int.tmod_eq_emod_of_nonneg b0, hrb]
  have w8 : IntKind.u8.wrap (97 + rb) = Y := by rw [IntKind.wrap_u8']; omega
  have w9 : IntKind.i64.wrap b = b := by rw [IntKind.wrap_i64]; omega
  have wa : IntKind.i64.wrap (b - 100) = vb := by rw [IntKind.wrap_i64]; omega
  have wb : IntKind.u8.wrap qa = qa := by rw [IntKind.wrap_u8']; omega
  have wc : IntKind.u8.wrap ta = ta := by rw [IntKind.wrap_u8']; omega
  have wd : IntKind.u8.wrap rb = rb := by rw [IntKind.wrap_u8']; omega
  have we : IntKind.i64.wrap ra = ra := by rw [IntKind.wrap_i64]; omega
  have hc1 := text_b1 (x := X) (by omega) (by omega) (Row.new (w.alloc (.cells #[.int .i64 0, .string ⟨#[]⟩, .string ⟨#[]⟩, .int .i64 0] 83)) 5 #[.int .u8 X])
  have hc2 := text_b1 (x := Y) (by omega) (by omega) (Row.new ((w.alloc (.cells #[.int .i64 0, .string ⟨#[]⟩, .string ⟨#[]⟩, .int .i64 0] 83)).alloc (.cells #[.int .u8 X] 5)) 5 #[.int .u8 Y])
  rw [World.size_alloc] at hc1
  rw [World.size_alloc, World.size_alloc] at hc2
  clear hka hra hqa hta hX hrb hY hvb a0 a1 b0 b1'
  go_enter Tryz.func37, Tryz.ntmps37
  go_wp2_with fail
  exact bodyPost_ret (results_cell_row rfl _ _ w.heap.size 83 _ (0, 0) _ rfl (((Row.new w _ _).alloc _).alloc _) Tryz.underlying83 rfl (by kernel_rfl)) rfl ⟨rfl, gb_alloc (gb_alloc (gb_alloc (gb_refl _ _) _) _) _⟩
end Go.Proofs.YthijiefopcnclaaGreatDoor.Dt

section
set_option linter.unusedVariables false
namespace Go.Proofs.YthijiefopcnclaaGreatDoor.Dt
open Go

section
variable {s : St} {dev : Int} {o : Opn}
theorem do_bad (h : Bad dev o) : doS s dev o = (none_, 1) := if_pos h
theorem do_none (hb : ¬ Bad dev o) (h : gone s.facts dev o = [] ∧ Away o) : doS s dev o = (none_, 2) := by unfold doS; rw [if_neg hb, if_pos h]
theorem do_over (hb : ¬ Bad dev o) (hn : ¬ (gone s.facts dev o = [] ∧ Away o)) (h : Over s dev o) : doS s dev o = (none_, 4) := by unfold doS; rw [if_neg hb, if_neg hn, if_pos h]
theorem do_full (hb : ¬ Bad dev o) (hn : ¬ (gone s.facts dev o = [] ∧ Away o)) (ho : ¬ Over s dev o) (h : 400 < (joinS s (delta s dev o)).facts.length) : doS s dev o = (none_, 4) := by unfold doS; rw [if_neg hb, if_neg hn, if_neg ho, if_pos h]
theorem do_ok (hb : ¬ Bad dev o) (hn : ¬ (gone s.facts dev o = [] ∧ Away o)) (ho : ¬ Over s dev o) (h : ¬ 400 < (joinS s (delta s dev o)).facts.length) : doS s dev o = (delta s dev o, 0) := by unfold doS; rw [if_neg hb, if_neg hn, if_neg ho, if_neg h]
end
theorem gone_more {l : List Fc} {k : Nat} {x : Fc} (h : l[k]? = some x) (dev : Int) (o : Opn) : gone (l.take (k + 1)) dev o = if goesB x dev o = true then gone (l.take k) dev o ++ [x] else gone (l.take k) dev o := by
  unfold gone
  rw [List.take_add_one, h, List.filter_append]
  cases hg : goesB x dev o <;> simp [hg]
theorem gone_len (l : List Fc) (dev : Int) (o : Opn) : (gone l dev o).length ≤ l.length := List.length_filter_le _ _
theorem sumV_snoc (x : Fc) : ∀ l : List Fc, sumV (l ++ [x]) = sumV l + x.v
  | [] => by simp [sumV]
  | f :: l => by rw [List.cons_append, sumV, sumV, sumV_snoc x l]; omega
theorem dotsF_snoc (l : List Fc) (x : Fc) : dotsF (l ++ [x]) = dotsF l ++ [(x.d, x.n)] := by unfold dotsF; rw [List.map_append]; rfl
theorem dotsF_len (l : List Fc) : (dotsF l).length = l.length := by unfold dotsF; rw [List.length_map]
theorem wrap_add (a b : Int) : IntKind.i64.wrap (IntKind.i64.wrap a + b) = IntKind.i64.wrap (a + b) := by
  rw [IntKind.wrap_i64, IntKind.wrap_i64, IntKind.wrap_i64]; omega
theorem sum_bound : ∀ l : List Fc, (∀ f ∈ l, RightF f) → -(1099511627776 * (l.length : Int)) ≤ sumV l ∧ sumV l ≤ 1099511627776 * (l.length : Int)
  | [], _ => by simp [sumV]
  | f :: l, h => by
    have ih := sum_bound l fun x hx => h x (by simp [hx])
    have hf := h f (by simp)
    unfold RightF at hf
    rw [sumV, List.length_cons]
    push_cast
    omega
theorem last_bound {l : List Rn} (h : Dt.May l) (dev : Int) : lastR dev l 0 ≤ 4503599627370496 := by
  rcases (lastR_spec dev l 0).2.2 with e | ⟨r, hr, _, e⟩
  · omega
  · obtain ⟨_, _, _, _, k⟩ := h.1 r hr
    omega
/-- What a deed's sum comes to. -/
theorem sum_in {s : St} (h : MayS s) (dev : Int) (o : Opn) (h1 : -1099511627776 ≤ o.v) (h2 : o.v ≤ 1099511627776) : IntKind.i64.wrap (o.v + sumV (gone s.facts dev o)) = o.v + sumV (gone s.facts dev o) := by
  have hb := sum_bound (gone s.facts dev o) fun f hf => (h.2.2.1 f (List.mem_filter.1 hf).1).1
  have hl := Nat.le_trans (gone_len s.facts dev o) h.2.1
  rw [IntKind.wrap_i64]; omega
end Go.Proofs.YthijiefopcnclaaGreatDoor.Dt
end
