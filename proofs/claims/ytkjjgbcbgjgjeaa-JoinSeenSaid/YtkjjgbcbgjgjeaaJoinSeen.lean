/-
  Proved: whatever values of its parameters' types it is called with, deaddroplaw9.JoinSeen returns true, and each argument reads behind the call as it read before.
  Conditions: none but those of the row itself.
-/
import Derived.Test.YtkjjgbcbgjgjeaaRows
import Derived.WalkKit
import Derived.ProofKit
import Derived.OpenShut
import Derived.ShutString
import Derived.Test.YtkjjgbcbgjgjeaaJnB
import Derived.Test.YtkjjgbcbgjgjeaaTold
import Derived.Test.YtkjjgbcbgjgjeaaToldT
import Derived.Deep.DeepCutAuto
import Derived.ChangeOld
import Derived.Below
namespace Go.Proofs.Ytkjjgbcbgjgjeaa.joinSeen
open Go.ChangeShapes Go.WideShapes Go.ChangeAt Go.RowKit
open Go.ChangeMaps (open_string shut_string)
open Go.Proofs.Ytkjjgbcbgjgjeaa.Mm Go.Proofs.Ytkjjgbcbgjgjeaa.Dt Go.Proofs.Ytkjjgbcbgjgjeaa.Td
set_option linter.unusedVariables false

theorem own : ownKnob Try.prog.godebug = none := by kernel_rfl
theorem laidOut : laidOutB Try.prog = true := by kernel_rfl
/-- What the walk is told of a slice of integers that came in. -/
def IsRow (k : IntKind) (w : World) (a : Option Addr) (len cap : Nat) (zs : List Int) : Prop :=
  (a = none ∧ len = 0 ∧ cap = 0 ∧ zs = []) ∨
  ∃ x, a = some x ∧ len ≤ cap ∧ cap ≤ maxLen ∧ zs.length = cap ∧ (∀ i, i < zs.length → w.cell? (x.add i) = some (.int k (zs.getD i 0))) ∧ ∀ n ∈ zs, (Lit.int k n).wf = true

attribute [local go_sem] Td.upon_value Td.upon_skip Td.upon_enter Td.upon_row Td.look_tmp Td.look_const Td.look_func Td.look_global
theorem gen_all {g : Grp} : ∀ {l : List St} {a : St}, Gen g a → (∀ s ∈ l, Gen g s) → Gen g (l.foldl joinS a)
  | [], _, h, _ => h
  | s :: l, a, h, hl => gen_all (l := l) (a := joinS a s) (.two _ _ h (hl s (by simp))) fun t ht => hl t (by simp [ht])
theorem gen_l {g : Grp} : ∀ s ∈ g.l, Gen g s := fun s hs => by
  unfold Grp.l at hs
  simp only [List.mem_cons, List.not_mem_nil, or_false] at hs
  rcases hs with rfl | rfl | rfl | rfl
  · exact Gen.one 0 (.inl rfl)
  · exact Gen.one 1 (.inr (.inl rfl))
  · exact Gen.one 2 (.inr (.inr (.inl rfl)))
  · exact Gen.one 3 (.inr (.inr (.inr rfl)))
theorem gen_lens {g : Grp} (h : Fine g 40) {s : St} (hs : Gen g s) : Lens s := by
  have h1 := (hs.low h).short (hs.may h (by omega))
  exact ⟨by omega, by omega⟩
theorem parts_grp {g : Grp} (h : Fine g 40) : Parts g.l ∧ ∀ k, Lens (allS (g.l.take k)) :=
  ⟨⟨fun s hs => ⟨(gen_l s hs).ss h, gen_lens h (gen_l s hs)⟩, fun i j _ => gen_lens h (gen_all .nothing fun s hs => gen_l s (List.mem_of_mem_drop (List.mem_of_mem_take hs)))⟩, fun k => gen_lens h (gen_all .nothing fun s hs => gen_l s (List.mem_of_mem_take hs))⟩
theorem dl_new1 (w : World) (x : Int × Int) (t : TypeId) : DL (w.alloc (.cells #[.int .i64 x.1, .int .i64 x.2] t)) (some ⟨w.heap.size, 0, none⟩) 1 [x] := by
  have hr := Row.new w t #[.int .i64 x.1, .int .i64 x.2]
  refine ⟨rfl, fun _ => ⟨w.heap.size, 0, rfl, hr.lt, fun i r h => ?_⟩⟩
  have hi : i = 0 := by have := (List.getElem?_eq_some_iff.1 h).1; simp at this; omega
  subst hi
  obtain rfl : x = r := by simpa using h
  exact ⟨hr.at_ (i := 0) rfl, hr.at_ (i := 1) rfl⟩
/-- Who has seen a fact's dot, and has nothing. -/
def goneS (f : Fc) : St := ⟨ofR [] [(f.d, f.n)], []⟩
def farS : St := ⟨[⟨7, 1, 9⟩], []⟩
theorem gone_ss (f : Fc) : SS (goneS f) := ⟨of_may _, fun _ h => (by cases h), List.Pairwise.nil⟩
theorem far_ss : SS farS := ⟨may_one (by unfold Ok; decide), fun _ h => (by cases h), List.Pairwise.nil⟩
theorem gone_is {s : St} {f : Fc} {k : Nat} (hs : SS s) (hf : s.facts[k]? = some f) (hlow : Low s 40) : atB (joinS s (goneS f)).facts f.d f.n = false ∧ (joinS s (goneS f)).facts.length + 1 = s.facts.length ∧ joinS (joinS s (goneS f)) s = joinS s (goneS f) ∧ SS (joinS s (goneS f)) ∧ (joinS s (goneS f)).seen.length ≤ 320 := by
  have hfs := List.mem_of_getElem? hf
  have hseen := hs.2.1 f hfs
  have hok := hs.1.ok hseen
  have hO : Ok ⟨f.d, f.n, f.n⟩ := by unfold Ok; dsimp only; omega
  have hg : ∀ d n, Has (goneS f).seen d n ↔ d = f.d ∧ n = f.n := fun d n => by
    show Has (ofR [] [(f.d, f.n)]) d n ↔ _
    rw [of_has]
    constructor
    · rintro ⟨h, _⟩; simpa using h
    · rintro ⟨rfl, rfl⟩; exact ⟨by simp, hO⟩
  have hgb : hasB (goneS f).seen f.d f.n = true := (hasB_iff _ _ _).2 ((hg _ _).2 ⟨rfl, rfl⟩)
  have h0 : ∀ d n, atB (goneS f).facts d n = false := fun _ _ => rfl
  have hjs := join_ss hs (gone_ss f)
  have hkl := (List.getElem?_eq_some_iff.1 hf).1
  have he : (joinS s (goneS f)).facts = s.facts.eraseIdx k := by
    refine sor_canon hjs.2.2 (hs.2.2.sublist (List.eraseIdx_sublist _ _)) fun x => ?_
    rw [mem_join, List.mem_eraseIdx_iff_getElem?, h0, Bool.or_false, Bool.not_eq_true', Bool.eq_false_iff, ne_eq, hasB_iff, hg]
    constructor
    · rintro (⟨h1, h2⟩ | ⟨h1, _⟩)
      · obtain ⟨i, hi⟩ := List.getElem?_of_mem h1
        exact ⟨i, fun e => h2 (by subst e; rw [hf] at hi; cases hi; exact ⟨rfl, rfl⟩), hi⟩
      · cases h1
    · rintro ⟨i, hne, hi⟩
      refine .inl ⟨List.mem_of_getElem? hi, fun e => ?_⟩
      rcases Nat.lt_or_gt_of_ne hne with h | h
      · exact (hs.2.2.next hi hf h).irr e
      · exact (hs.2.2.next hf hi h).irr ⟨e.1.symm, e.2.symm⟩
  refine ⟨?_, ?_, join_more hs (gone_ss f) (fun _ _ _ h => (by cases h)), hjs, ?_⟩
  · rw [join_at hs (gone_ss f), h0, hgb]; simp
  · rw [he, List.length_eraseIdx, if_pos hkl]; omega
  · have hl : Low (goneS f) 40 := fun d n h => by obtain ⟨rfl, rfl⟩ := (hg d n).1 h; exact hlow _ _ hseen
    have := runs_len hjs.1 40 (low_join hs (gone_ss f) hlow hl)
    omega
theorem far_is {s : St} {f : Fc} {k : Nat} (hs : SS s) (hdev : ∀ d n, Has s.seen d n → In4 d) (hf : s.facts[k]? = some f) : (joinS s farS).facts = s.facts ∧ atB (joinS s farS).facts f.d f.n = true ∧ SS (joinS s farS) := by
  have hjs := join_ss hs far_ss
  have he : (joinS s farS).facts = s.facts := by
    refine sor_canon hjs.2.2 hs.2.2 fun x => ?_
    rw [mem_join]
    constructor
    · rintro (⟨h, _⟩ | ⟨h, _⟩)
      · exact h
      · cases h
    · intro h
      refine .inl ⟨h, ?_⟩
      have h4 := hdev _ _ (hs.2.1 x h)
      have hn : hasB farS.seen x.d x.n = false := by
        rw [Bool.eq_false_iff, ne_eq, hasB_iff]
        rintro ⟨r, hr, hd, _⟩
        have : r = ⟨7, 1, 9⟩ := by simpa [farS] using hr
        subst this
        unfold In4 at h4
        dsimp only at hd
        omega
      rw [hn]; rfl
  exact ⟨he, by rw [he]; exact (atB_iff _ _ _).2 ⟨f, List.mem_of_getElem? hf, rfl, rfl⟩, hjs⟩

set_option maxHeartbeats 40000000 in
set_option maxRecDepth 100000 in
theorem walk (a0 : Option Addr) (len0 cap0 : Nat) (z0 : List Int) (a1 : Int) (w : World) (w0 : IsRow .u8 w a0 len0 cap0 z0) (w1 : (Lit.int .u8 a1).wf = true) :
    Calls Try.prog 11 #[.slice a0 len0 cap0, .int .u8 a1] w fun e w' => e = .returned (.bool true) ∧ Below w.heap.size w w' := by
  obtain ⟨x10, x11⟩ : 0 ≤ a1 ∧ a1 ≤ 255 := by
    have h1 : IntKind.u8.min = 0 := by decide
    have h2 : IntKind.u8.max = 255 := by decide
    simp only [Lit.wf, h1, h2, Bool.and_eq_true, decide_eq_true_eq] at w1
    exact w1
  obtain ⟨hnl0, _, _⟩ := nl_of_row w0
  obtain ⟨g, hg0⟩ : ∃ g, apartK (z0.take len0) (min (len0 / 3) 40) = g := ⟨_, rfl⟩
  have hfine : Fine g 40 := by rw [← hg0]; exact (apartK_fine _ _ (Nat.min_le_right _ _)).more (Nat.min_le_right _ _)
  have HFine := Lib.hid hfine
  have HAp : Hid (∀ W, w.grownBy W none → Calls Try.prog 33 #[.slice a0 len0 cap0] W (Grps g W)) := fun W hW => by rw [← hg0]; exact apart9_any a0 len0 cap0 _ W (hnl0.keep hW)
  clear hnl0 hg0
  obtain ⟨s, hsd⟩ : ∃ s, allS g.l = s := ⟨_, rfl⟩
  have gen_s : Gen g s := by rw [← hsd]; exact (all_above hfine).1
  have Hvs : Hid (SS s ∧ s.seen.length ≤ 320 ∧ s.facts.length ≤ 320) := by
    have h := (gen_s.low hfine).short (gen_s.may hfine (by omega))
    exact ⟨gen_s.ss hfine, by omega, by omega⟩
  have Hdev : Hid (∀ d n, Has s.seen d n → In4 d) := fun d n h => gen_s.devs hfine h
  have Hsd := Lib.hid hsd
  have HPl := Lib.hid (parts_grp hfine)
  have HLow40 : Hid (Low s 40) := gen_s.low hfine
  have Hx1 : Hid (0 ≤ a1 ∧ a1 ≤ 255) := ⟨x10, x11⟩
  have Hw1 : Hid (IntKind.i64.wrap a1 = a1) := by show _ = _; rw [IntKind.wrap_i64]; omega
  clear hsd gen_s x10 x11 w0 w1 hfine
  go_enter Try.func11, Try.ntmps11
  go_upto_region 2 with (first
    | (go_at_call 33; refine (HAp.out w (gb_refl _ _)).mono ?_; rintro e w1 ⟨gl, rfl, hgr, hgl, g1⟩)
    | (go_at_call 32; refine (refAll_any (some ⟨gl, 0, none⟩) 4 4 g.l w1 hgr.al HPl.out.1.1 (fun k _ => HPl.out.2 k) (by omega)).mono ?_; rw [Hsd.out]; rintro e w3 ⟨Xs, xs, ys, Ys, us, vs, rfl, hs, hc, hd, g3⟩))
  have HG2 : Hid (w.grownBy w1 none) := g1
  obtain ⟨bj, hbj⟩ : ∃ bj, w3.heap.size = bj := ⟨_, rfl⟩
  rw [hbj]
  refine Td.named (fun W => w1.grownBy W none ∧ Row W bj 26 #[.slice Xs xs ys, .slice Ys us vs] ∧ SL W Xs xs Ys us s) ⟨gb_alloc g3 _, by rw [← hbj]; exact Row.new _ _ _, hs.keep (gb_alloc (gb_refl _ _) _)⟩ ?_
  rintro W1 ⟨hg3, hrow3, hs3⟩
  have HBs : Hid (xs ≤ 320 ∧ us ≤ 320 ∧ xs ≤ ys ∧ us ≤ vs) := by have h1 := hs3.1.1; have h2 := hs3.2.1; have := Hvs.out; exact ⟨by omega, by omega, hc, hd⟩
  have HSs : Hid (∀ W, W1.grownBy W none → W.cell? ⟨bj, 0, none⟩ = some (.slice Xs xs ys) ∧ W.cell? ⟨bj, 1, none⟩ = some (.slice Ys us vs) ∧ SL W Xs xs Ys us s) := fun W hW => ⟨(hrow3.kept hW (by simp)).at_ (i := 0) rfl, (hrow3.kept hW (by simp)).at_ (i := 1) rfl, hs3.keep hW⟩
  have HGx : Hid (w1.grownBy W1 none) := hg3
  replace HG2 : Hid (w.grownBy W1 none) := gb_none HG2.out HGx.out
  clear hbj hs hc hd g3 hg3 hrow3 hs3 HGx hgr hgl g1
  have hus : s.facts.length = us := (HSs.out W1 (gb_refl _ _)).2.2.2.1
  obtain ⟨i0, i1, _⟩ := HSs.out W1 (gb_refl _ _)
  by_cases hm : us = 0
  · have d1 : (us == 0) = true := by rw [hm]; rfl
    have d2 : ((us : Int) == 0) = true := by rw [hm]; rfl
    clear hm hus
    go_wp2_with (go_at_call 26; refine (awake9_any _).mono ?_; rintro e w7 ⟨rfl, g7⟩)
    go_ret
    exact ⟨rfl, gb_below (gb_none HG2.out g7) (Nat.le_refl _)⟩
  · have d1 : (us == 0) = false := by rw [beq_eq_false_iff_ne]; exact hm
    have d2 : ((us : Int) == 0) = false := by rw [beq_eq_false_iff_ne]; omega
    obtain ⟨k, hk⟩ : ∃ k : Nat, a1 % (us : Int) = (k : Int) := ⟨(a1 % (us : Int)).toNat, by have := Int.emod_nonneg a1 (b := (us : Int)) (by omega); omega⟩
    have hkm : k < us := by have := Int.emod_lt_of_pos a1 (b := (us : Int)) (by omega); omega
    have Hw2 : Hid (a1.tmod (us : Int) = (k : Int)) := by show _ = _; rw [Int.tmod_eq_emod_of_nonneg Hx1.out.1, hk]
    have Hw3 : Hid (¬ (us : Int) = 0) := by show ¬ _; omega
    have Hw4 : Hid (IntKind.i64.wrap (k : Int) = (k : Int)) := by show _ = _; rw [IntKind.wrap_i64]; have := HBs.out; omega
    have HBk : Hid ((k : Int) < (us : Int)) := by show _ < _; omega
    have HM0 : Hid (0 < us) := by show 0 < us; omega
    obtain ⟨fx, hf⟩ : ∃ fx, s.facts[k]? = some fx := ⟨_, List.getElem?_eq_getElem (by omega)⟩
    obtain ⟨gB, oB, rfl, _, _⟩ := (HSs.out W1 (gb_refl _ _)).2.2.2.2 (by omega)
    have HX : Hid (∀ W, W1.grownBy W none → At6 W gB (oB + k * 6) fx) := fun W hW => fl_at6 (HSs.out W hW).2.2.2 hf
    obtain ⟨t, ht⟩ : ∃ t, joinS s (goneS fx) = t := ⟨_, rfl⟩
    obtain ⟨o, ho⟩ : ∃ o, joinS s farS = o := ⟨_, rfl⟩
    have Hgt := Lib.hid ht
    have Hgo := Lib.hid ho
    have Hpt : Hid (atB t.facts fx.d fx.n = false ∧ t.facts.length + 1 = us ∧ joinS t s = t ∧ SS t ∧ t.seen.length ≤ 320) := by rw [← ht, ← hus]; exact gone_is Hvs.out.1 hf HLow40.out
    have Hpo : Hid (o.facts = s.facts ∧ atB o.facts fx.d fx.n = true ∧ SS o) := by rw [← ho]; exact far_is Hvs.out.1 Hdev.out hf
    have Hvt : Hid (SS t ∧ t.seen.length ≤ 320 ∧ t.facts.length ≤ 320) := ⟨Hpt.out.2.2.2.1, Hpt.out.2.2.2.2, by have h1 := Hpt.out.2.1; have h2 := HBs.out; omega⟩
    have Htm : Hid (IntKind.i64.wrap ((us : Int) - 1) = (t.facts.length : Int)) := by show _ = _; rw [IntKind.wrap_i64]; have h1 := Hpt.out.2.1; have h2 := HBs.out; omega
    have Hus := Lib.hid hus
    clear ht ho hf hk hkm hm hus
    go_upto_region 4 with fail
    clear d1 d2 i0 i1
    apply wp_region_told_tail (le := fun a b => a.grownBy b none) 11 _ [isV _, isV _, isV _, isV _, isV _, isV _, isV _, isV _, isV _, isV _, newB _ 37 #[.int .i64 0, .int .i64 0, .string ⟨#[]⟩, .int .i64 0, .string ⟨#[]⟩, .int .i64 0]]
    case hL => rfl
    case hz => rfl
    case hLd => rfl
    case hLg => rfl
    case hLw => kernel_rfl
    case hlen => rfl
    case hn => rfl
    case hm => kernel_rfl
    case hB => kernel_rfl
    case ht => exact fun _ _ _ h k => gb_none h k
    case hw => exact gb_drew (gb_refl _ _)
    -- 0: more.go:38 fieldAddr
    apply told_is
    · intro W f hW hE h0 K hK
      have e5 := h0 5 (by kernel_rfl)
      conv at e5 => rhs; whnf
      clear hE h0
      refine yes_of (want_free rfl) ?_
      go_simp; exact hK _ _ (gb_refl _ _) rfl
    -- 1: more.go:38 load
    apply told_is
    · intro W f hW hE h0 K hK
      have e19 : f 19 = _ := hE 0 19 _ rfl (by kernel_rfl)
      clear hE h0
      refine yes_of (want_free rfl) ?_
      obtain ⟨z0, z1, _⟩ := HSs.out W hW
      go_simp; exact hK _ _ (gb_refl _ _) rfl
    -- 2: more.go:38 move
    apply told_is
    · intro W f hW hE h0 K hK
      have e1 := h0 1 (by kernel_rfl)
      conv at e1 => rhs; whnf
      clear hE h0
      refine yes_of (want_free rfl) ?_
      go_simp; exact hK _ _ (gb_refl _ _) rfl
    -- 3: more.go:38 convert
    apply told_is
    · intro W f hW hE h0 K hK
      have e21 : f 21 = _ := hE 0 21 _ rfl (by kernel_rfl)
      clear hE h0
      refine yes_of (want_free rfl) ?_
      have t1 := Hw1.out
      go_simp; exact hK _ _ (gb_refl _ _) rfl
    -- 4: more.go:38 fieldAddr
    apply told_is
    · intro W f hW hE h0 K hK
      have e5 := h0 5 (by kernel_rfl)
      conv at e5 => rhs; whnf
      clear hE h0
      refine yes_of (want_free rfl) ?_
      go_simp; exact hK _ _ (gb_refl _ _) rfl
    -- 5: more.go:38 load
    apply told_is
    · intro W f hW hE h0 K hK
      have e23 : f 23 = _ := hE 0 23 _ rfl (by kernel_rfl)
      clear hE h0
      refine yes_of (want_free rfl) ?_
      obtain ⟨z0, z1, _⟩ := HSs.out W hW
      go_simp; exact hK _ _ (gb_refl _ _) rfl
    -- 6: more.go:38 call
    apply told_is
    · intro W f hW hE h0 K hK
      have e24 : f 24 = _ := hE 0 24 _ rfl (by kernel_rfl)
      clear hE h0
      refine yes_of (want_free rfl) ?_
      go_simp; exact hK _ _ (gb_refl _ _) rfl
    -- 7: more.go:38 binOp
    apply told_is
    · intro W f hW hE h0 K hK
      have e22 : f 22 = _ := hE 3 22 _ rfl (by kernel_rfl)
      have e25 : f 25 = _ := hE 0 25 _ rfl (by kernel_rfl)
      clear hE h0
      refine yes_of (want_free rfl) ?_
      have t1 := Hw2.out; have t2 := Hw3.out; have t3 := Hw4.out; have t4 : ¬ us = 0 := Nat.ne_of_gt HM0.out
      go_simp; exact hK _ _ (gb_refl _ _) rfl
    -- 8: more.go:38 indexAddr
    apply told_is
    · intro W f hW hE h0 K hK
      have e20 : f 20 = _ := hE 6 20 _ rfl (by kernel_rfl)
      have e26 : f 26 = _ := hE 0 26 _ rfl (by kernel_rfl)
      clear hE h0
      refine yes_of (want_free rfl) ?_
      have b0 := HBk.out
      go_simp; exact hK _ _ (gb_refl _ _) rfl
    -- 9: more.go:38 load
    apply told_is
    · intro W f hW hE h0 K hK
      have e27 : f 27 = _ := hE 0 27 _ rfl (by kernel_rfl)
      clear hE h0
      refine yes_of (want_free rfl) ?_
      obtain ⟨q0, q1, q2, q3, q4, q5⟩ := HX.out W hW
      go_simp; exact hK _ _ (gb_refl _ _) rfl
    -- 10: more.go:38 alloc
    apply told_at newB_stays
    · intro W f hW hE h0 K hK
      clear hE h0
      refine yes_of (want_free rfl) ?_
      go_simp
      exact hK _ _ (gb_alloc (gb_refl _ _) _) ⟨_, rfl, hW.size, Row.new _ _ _⟩
    intro W f hW hA
    simp only [lexIn, Act.put, List.setIfInBounds_toArray, List.set_cons_zero, List.set_cons_succ]
    have e28 : f 28 = _ := hA 1 (some 28) _ rfl
    rw [e28]
    have e6 := hA 0 (some 6) _ rfl
    clear hA
    obtain ⟨gq, e6, hgN, hr⟩ := e6
    rw [e6]
    have q0 := hr.free 0
    have q1 := hr.free 1
    have q2 := hr.free 2
    have q3 := hr.free 3
    have q4 := hr.free 4
    have q5 := hr.free 5
    have u0 := hr.at_ (i := 0) rfl
    have u1 := hr.at_ (i := 1) rfl
    have u2 := hr.at_ (i := 2) rfl
    have u3 := hr.at_ (i := 3) rfl
    have u4 := hr.at_ (i := 4) rfl
    have u5 := hr.at_ (i := 5) rfl
    have Hrs := Lib.hid (row_six (x := fx) hr)
    have Gw := Lib.hid (gb_six (x := fx) hW hgN)
    clear hgN hW
    rw [ends_is]
    go_simp
    clear q0 q1 q2 q3 q4 q5 u0 u1 u2 u3 u4 u5 hr
    go_upto_region 5 with fail
    refine Td.named (fun W' => W1.grownBy W' none ∧ Row W' gq 37 #[.int .i64 fx.d, .int .i64 fx.n, .string fx.key, .int .i64 fx.kind, .string fx.item, .int .i64 fx.v]) ⟨Gw.out, Hrs.out⟩ ?_
    rintro W2 ⟨hg8, hrow8⟩
    clear Gw Hrs
    have HGx : Hid (W1.grownBy W2 none) := hg8
    replace HSs : Hid (∀ W, W2.grownBy W none → _) := fun W hW => HSs.out W (gb_none HGx.out hW)
    replace HG2 : Hid (w.grownBy W2 none) := gb_none HG2.out HGx.out
    have HF : Hid (∀ W, W2.grownBy W none → W.cell? ⟨gq, 0, none⟩ = some (.int .i64 fx.d) ∧ W.cell? ⟨gq, 1, none⟩ = some (.int .i64 fx.n)) := fun W hW => ⟨(hrow8.kept hW (by simp)).at_ (i := 0) rfl, (hrow8.kept hW (by simp)).at_ (i := 1) rfl⟩
    clear hg8 hrow8 HGx HX
    obtain ⟨f0, f1⟩ := HF.out W2 (gb_refl _ _)
    obtain ⟨Lo, hLo⟩ : ∃ Lo, (ofR [] [(fx.d, fx.n)]).length = Lo := ⟨_, rfl⟩
    have HLo := Lib.hid hLo
    have HLob : Hid (Lo ≤ 1) := by show Lo ≤ 1; rw [← hLo]; exact of_len _
    have HOf : Hid (Calls Try.prog 24 #[.slice (some ⟨W2.heap.size, 0, none⟩) 1 1] (W2.alloc (.cells #[.int .i64 fx.d, .int .i64 fx.n] 35)) (Runs (ofR [] [(fx.d, fx.n)]) (W2.alloc (.cells #[.int .i64 fx.d, .int .i64 fx.n] 35)))) := refOf_any _ 1 1 [(fx.d, fx.n)] _ (dl_new1 W2 (fx.d, fx.n) _) (by decide)
    clear hLo
    go_upto_region 6 with (go_at_call 24; refine HOf.out.mono ?_; rintro e w3 ⟨Xn, yn, he, hrn, hkn, g3⟩; rw [HLo.out] at he hrn hkn; subst he)
    obtain ⟨bn, hbn⟩ : ∃ bn, w3.heap.size = bn := ⟨_, rfl⟩
    rw [hbn]
    refine Td.named (fun W => W2.grownBy W none ∧ Row W bn 26 #[.slice Xn Lo yn, .slice none 0 0] ∧ SL W Xn Lo none 0 (goneS fx)) ⟨gb_alloc (gb_none (gb_alloc (gb_refl _ _) _) g3) _, by rw [← hbn]; exact Row.new _ _ _, ⟨hrn.keep (gb_alloc (gb_refl _ _) _), FL.none _ _⟩⟩ ?_
    rintro W3 ⟨hg3, hrow3, hs3⟩
    have HGx : Hid (W2.grownBy W3 none) := hg3
    replace HSs : Hid (∀ W, W3.grownBy W none → _) := fun W hW => HSs.out W (gb_none HGx.out hW)
    replace HF : Hid (∀ W, W3.grownBy W none → _) := fun W hW => HF.out W (gb_none HGx.out hW)
    replace HG2 : Hid (w.grownBy W3 none) := gb_none HG2.out HGx.out
    have Hyn : Hid (Lo ≤ yn) := hkn.2
    have HJt : Hid (Calls Try.prog 28 #[.agg #[.slice Xs xs ys, .slice (some ⟨gB, oB, none⟩) us vs], .agg #[.slice Xn Lo yn, .slice none 0 0]] W3 (States t W3)) := by
      have h := pJoin_any Xs (some ⟨gB, oB, none⟩) Xn none xs ys us vs Lo yn 0 0 s (goneS fx) W3 (HSs.out W3 (gb_refl _ _)).2.2 hs3 Hvs.out.1 (gone_ss fx) (by have := HBs.out; omega) (by have := HBs.out; omega) (by have := HLob.out; omega) (by omega) (by have := HBs.out; omega) (by omega) Hyn.out
      rw [Hgt.out] at h
      exact h
    obtain ⟨i0, i1, _⟩ := HSs.out W3 (gb_refl _ _)
    have j0 := hrow3.at_ (i := 0) rfl
    have j1 := hrow3.at_ (i := 1) rfl
    clear HOf hrn hkn g3 hbn f0 f1 HGx hg3 hrow3 hs3
    go_upto_region 7 with (go_at_call 28; refine HJt.out.mono ?_; rintro e w3 ⟨Xt, xt, yt, Yt, ut, vt, rfl, hs, hc, hd, g3⟩)
    clear i0 i1 j0 j1
    obtain ⟨bt, hbt⟩ : ∃ bt, w3.heap.size = bt := ⟨_, rfl⟩
    rw [hbt]
    refine Td.named (fun W => W3.grownBy W none ∧ Row W bt 26 #[.slice Xt xt yt, .slice Yt ut vt] ∧ SL W Xt xt Yt ut t) ⟨gb_alloc g3 _, by rw [← hbt]; exact Row.new _ _ _, hs.keep (gb_alloc (gb_refl _ _) _)⟩ ?_
    rintro W4 ⟨hg3, hrow3, hs3⟩
    have HBt : Hid (xt ≤ 320 ∧ ut ≤ 320 ∧ xt ≤ yt ∧ ut ≤ vt) := by have h1 := hs3.1.1; have h2 := hs3.2.1; have := Hvt.out; exact ⟨by omega, by omega, hc, hd⟩
    have HSt : Hid (∀ W, W4.grownBy W none → W.cell? ⟨bt, 0, none⟩ = some (.slice Xt xt yt) ∧ W.cell? ⟨bt, 1, none⟩ = some (.slice Yt ut vt) ∧ SL W Xt xt Yt ut t) := fun W hW => ⟨(hrow3.kept hW (by simp)).at_ (i := 0) rfl, (hrow3.kept hW (by simp)).at_ (i := 1) rfl, hs3.keep hW⟩
    have HGx : Hid (W3.grownBy W4 none) := hg3
    replace HSs : Hid (∀ W, W4.grownBy W none → _) := fun W hW => HSs.out W (gb_none HGx.out hW)
    replace HF : Hid (∀ W, W4.grownBy W none → _) := fun W hW => HF.out W (gb_none HGx.out hW)
    replace HG2 : Hid (w.grownBy W4 none) := gb_none HG2.out HGx.out
    clear hbt hs hc hd g3 hg3 hrow3 hs3 HGx HJt
    have HJu : Hid (Calls Try.prog 28 #[.agg #[.slice Xt xt yt, .slice Yt ut vt], .agg #[.slice Xs xs ys, .slice (some ⟨gB, oB, none⟩) us vs]] W4 (States t W4)) := by
      have h := pJoin_any Xt Yt Xs (some ⟨gB, oB, none⟩) xt yt ut vt xs ys us vs t s W4 (HSt.out W4 (gb_refl _ _)).2.2 (HSs.out W4 (gb_refl _ _)).2.2 Hvt.out.1 Hvs.out.1 (by have := HBt.out; omega) (by have := HBt.out; omega) (by have := HBs.out; omega) (by have := HBs.out; omega) (by have := HBt.out; omega) (by have := HBs.out; omega) (by have := HBs.out; omega)
      rw [Hpt.out.2.2.1] at h
      exact h
    obtain ⟨i0, i1, _⟩ := HSs.out W4 (gb_refl _ _)
    obtain ⟨j0, j1, _⟩ := HSt.out W4 (gb_refl _ _)
    go_upto_region 8 with (go_at_call 28; refine HJu.out.mono ?_; rintro e w3 ⟨Xu, xu, yu, Yu, uu, vu, rfl, hs, hc, hd, g3⟩)
    clear i0 i1 j0 j1
    obtain ⟨bu, hbu⟩ : ∃ bu, w3.heap.size = bu := ⟨_, rfl⟩
    rw [hbu]
    refine Td.named (fun W => W4.grownBy W none ∧ Row W bu 26 #[.slice Xu xu yu, .slice Yu uu vu] ∧ SL W Xu xu Yu uu t) ⟨gb_alloc g3 _, by rw [← hbu]; exact Row.new _ _ _, hs.keep (gb_alloc (gb_refl _ _) _)⟩ ?_
    rintro W5 ⟨hg3, hrow3, hs3⟩
    have HBu : Hid (xu ≤ 320 ∧ uu ≤ 320) := by have h1 := hs3.1.1; have h2 := hs3.2.1; have := Hvt.out; exact ⟨by omega, by omega⟩
    have HSu : Hid (∀ W, W5.grownBy W none → W.cell? ⟨bu, 0, none⟩ = some (.slice Xu xu yu) ∧ W.cell? ⟨bu, 1, none⟩ = some (.slice Yu uu vu) ∧ SL W Xu xu Yu uu t) := fun W hW => ⟨(hrow3.kept hW (by simp)).at_ (i := 0) rfl, (hrow3.kept hW (by simp)).at_ (i := 1) rfl, hs3.keep hW⟩
    have HGx : Hid (W4.grownBy W5 none) := hg3
    replace HSs : Hid (∀ W, W5.grownBy W none → _) := fun W hW => HSs.out W (gb_none HGx.out hW)
    replace HSt : Hid (∀ W, W5.grownBy W none → _) := fun W hW => HSt.out W (gb_none HGx.out hW)
    replace HF : Hid (∀ W, W5.grownBy W none → _) := fun W hW => HF.out W (gb_none HGx.out hW)
    replace HG2 : Hid (w.grownBy W5 none) := gb_none HG2.out HGx.out
    clear hbu hs hc hd g3 hg3 hrow3 hs3 HGx HJu
    have HJo : Hid (Calls Try.prog 28 #[.agg #[.slice Xs xs ys, .slice (some ⟨gB, oB, none⟩) us vs], .agg #[.slice (some ⟨W5.heap.size, 0, none⟩) 1 1, .slice none 0 0]] (W5.alloc (.cells #[.int .i64 7, .int .i64 1, .int .i64 9] 58)) (States o (W5.alloc (.cells #[.int .i64 7, .int .i64 1, .int .i64 9] 58)))) := by
      have h := pJoin_any Xs (some ⟨gB, oB, none⟩) (some ⟨W5.heap.size, 0, none⟩) none xs ys us vs 1 1 0 0 s farS _ (HSs.out _ (gb_alloc (gb_refl W5 none) (.cells #[.int .i64 7, .int .i64 1, .int .i64 9] 58))).2.2 ⟨rl_one W5 ⟨7, 1, 9⟩ 58, FL.none _ _⟩ Hvs.out.1 far_ss (by have := HBs.out; omega) (by have := HBs.out; omega) (by omega) (by omega) (by have := HBs.out; omega) (by omega) (by omega)
      rw [Hgo.out] at h
      exact h
    obtain ⟨i0, i1, _⟩ := HSs.out W5 (gb_refl _ _)
    go_upto_region 9 with (go_at_call 28; refine HJo.out.mono ?_; rintro e w3 ⟨Xo, xo, yo, Yo, uo, vo, rfl, hs, hc, hd, g3⟩)
    clear i0 i1
    obtain ⟨bo, hbo⟩ : ∃ bo, w3.heap.size = bo := ⟨_, rfl⟩
    rw [hbo]
    have huo : us = uo := by rw [← hs.2.1, Hpo.out.1, Hus.out]
    subst huo
    refine Td.named (fun W => W5.grownBy W none ∧ Row W bo 26 #[.slice Xo xo yo, .slice Yo us vo] ∧ SL W Xo xo Yo us o) ⟨gb_alloc (gb_none (gb_alloc (gb_refl _ _) _) g3) _, by rw [← hbo]; exact Row.new _ _ _, hs.keep (gb_alloc (gb_refl _ _) _)⟩ ?_
    rintro W6 ⟨hg3, hrow3, hs3⟩
    have HSo : Hid (∀ W, W6.grownBy W none → W.cell? ⟨bo, 0, none⟩ = some (.slice Xo xo yo) ∧ W.cell? ⟨bo, 1, none⟩ = some (.slice Yo us vo) ∧ SL W Xo xo Yo us o) := fun W hW => ⟨(hrow3.kept hW (by simp)).at_ (i := 0) rfl, (hrow3.kept hW (by simp)).at_ (i := 1) rfl, hs3.keep hW⟩
    have HGx : Hid (W5.grownBy W6 none) := hg3
    have hut : ut = t.facts.length := (HSt.out W5 (gb_refl _ _)).2.2.2.1.symm
    have HutN : Hid (IntKind.i64.wrap ((us : Int) - 1) = (ut : Int)) := by show _ = _; rw [hut]; exact Htm.out
    have HAll : Hid (∀ W, W6.grownBy W none → (W.cell? ⟨bj, 0, none⟩ = some (.slice Xs xs ys) ∧ W.cell? ⟨bj, 1, none⟩ = some (.slice (some ⟨gB, oB, none⟩) us vs)) ∧ (W.cell? ⟨bt, 0, none⟩ = some (.slice Xt xt yt) ∧ W.cell? ⟨bt, 1, none⟩ = some (.slice Yt ut vt)) ∧ (W.cell? ⟨bu, 0, none⟩ = some (.slice Xu xu yu) ∧ W.cell? ⟨bu, 1, none⟩ = some (.slice Yu uu vu)) ∧ (W.cell? ⟨bo, 0, none⟩ = some (.slice Xo xo yo) ∧ W.cell? ⟨bo, 1, none⟩ = some (.slice Yo us vo)) ∧ W.cell? ⟨gq, 0, none⟩ = some (.int .i64 fx.d) ∧ W.cell? ⟨gq, 1, none⟩ = some (.int .i64 fx.n)) := fun W hW => by
      have k := gb_none HGx.out hW
      obtain ⟨a1', a2', _⟩ := HSs.out W k
      obtain ⟨b1', b2', _⟩ := HSt.out W k
      obtain ⟨c1', c2', _⟩ := HSu.out W k
      obtain ⟨d1', d2', _⟩ := HSo.out W hW
      exact ⟨⟨a1', a2'⟩, ⟨b1', b2'⟩, ⟨c1', c2'⟩, ⟨d1', d2'⟩, HF.out W k⟩
    have HTT : Hid (∀ W, W6.grownBy W none → SL W Xt xt Yt ut t) := fun W hW => (HSt.out W (gb_none HGx.out hW)).2.2
    have HUU : Hid (∀ W, W6.grownBy W none → SL W Xu xu Yu uu t) := fun W hW => (HSu.out W (gb_none HGx.out hW)).2.2
    replace HG2 : Hid (w.grownBy W6 none) := gb_none HG2.out HGx.out
    have t1 := HutN.out
    clear hbo hs hc hd g3 hg3 hrow3 hs3 HJo hut
    obtain ⟨⟨p0, p1⟩, ⟨p2, p3⟩, ⟨p4, p5⟩, ⟨p6, p7⟩, p8, p9⟩ := HAll.out W6 (gb_refl _ _)
    go_wp2_with (first
      | (go_at_call 34; first
        | (with_reducible refine (has9_any Xt Yt xt yt ut vt t fx.d fx.n W6 (HTT.out W6 (gb_refl _ _)) (by have := HBt.out; omega)).mono ?_); rintro e v1 ⟨he, gg⟩; rw [Hpt.out.1] at he; subst he; have Hv1 := Lib.hid gg; obtain ⟨⟨a0', a1'⟩, ⟨a2', a3'⟩, ⟨a4', a5'⟩, ⟨a6', a7'⟩, a8', a9'⟩ := HAll.out v1 gg; clear gg
        | (with_reducible refine (has9_any Xo Yo xo yo us vo o fx.d fx.n v2 (HSo.out v2 Hv2.out).2.2 (by have := HBs.out; omega)).mono ?_); rintro e v3 ⟨he, gg⟩; rw [Hpo.out.2.1] at he; subst he; have Hv3 := Lib.hid (gb_none Hv2.out gg); clear gg)
      | (go_at_call 18; (with_reducible refine (refSameSt_any Xu Yu Xt Yt xu yu uu vu xt yt ut vt t t v1 (HUU.out v1 Hv1.out) (HTT.out v1 Hv1.out) (by have := HBu.out; omega) (by have := HBu.out; omega) (by have := HBt.out; omega) (by have := HBt.out; omega)).mono ?_); intro e v2 hh; obtain ⟨he, gg⟩ := hh.yes rfl; clear hh; subst he; have Hv2 := Lib.hid (gb_none Hv1.out gg); obtain ⟨⟨c0', c1'⟩, ⟨c2', c3'⟩, ⟨c4', c5'⟩, ⟨c6', c7'⟩, c8', c9'⟩ := HAll.out v2 Hv2.out; clear gg))
    go_wp2_with (go_at_call 26; refine (awake9_any _).mono ?_; rintro e w7 ⟨rfl, g7⟩)
    go_ret
    exact ⟨rfl, gb_below (gb_none HG2.out (gb_none Hv3.out g7)) (Nat.le_refl _)⟩

set_option maxRecDepth 100000 in
theorem lifted (os : Os) (started : os.Started) (H : Type) (enc : TypeId × Value → H) :
    ReturnsInHanded {} Try.checked os 11 .any (Rows.joinSeenSpec.pre6 enc Try.prog Try.f11 Rows.joinSeenRow.domain false) (Rows.joinSeenSpec.post enc Try.prog Try.f11 false true false false) := by
  refine returnsInHanded_of_change (C := Try.checked) own started (by kernel_rfl) Try.func11
    (ChangeSpec.witness6 (enc := enc) (C := Try.checked) false ⟨#[], #[.slice none 0 0, .int .u8 0], []⟩ 8 (by kernel_rfl) (by kernel_rfl) (by kernel_rfl) (by kernel_rfl)) ?_
  intro W base args ds gs before hval0 hW hcnd _
  have hval : ∀ (j : Nat) t v, Try.f11.params[j]? = some t → args[j]? = some v → Value.okWide Try.prog W .any base t v := hval0
  have hW' := hW
  obtain ⟨p, q, hA0, hV, rfl, hfz, hnd⟩ := hW
  have hA : DataW.TrodAll enc Try.prog W 0 (fun _ => true) true Try.f11.params.toList args.toList ds p := hA0
  rw [Try.params11] at hA hval
  obtain ⟨v0, vs0, d0, ds0, p0, q0, hargs, rfl, rfl, h0, r0⟩ := trodAll_cons hA
  obtain ⟨v1, vs1, d1, ds1, p1, q1, rfl, rfl, rfl, h1, r1⟩ := trodAll_cons r0
  obtain ⟨rfl, rfl, rfl⟩ := trodAll_nil r1
  obtain rfl : args = #[v0, v1] := by cases args; simp_all
  obtain ⟨rfl, rfl⟩ := trodVars_none hV
  have k0 := h0
  have lt0 : ∀ x ∈ p0, x.block < W.heap.size := by obtain ⟨m, hm⟩ := k0; exact DataW.trod_lt m _ _ _ hm
  obtain ⟨a0, len0, cap0, rfl⟩ := okWide_slice Try.underlying22 (hval 0 22 v0 rfl rfl)
  obtain ⟨z0, w0⟩ : ∃ zs, IsRow .u8 W a0 len0 cap0 zs := by
    obtain ⟨fuel, hf⟩ := h0
    rcases open_ints Try.underlying22 Try.underlying5 (by kernel_rfl) hf with ⟨hcs, _⟩ | ⟨x, l, c, zs, hcs, _, hl, hm, hz, _, hcell, hwz⟩
    · simp [Value.cells] at hcs
      obtain ⟨rfl, rfl, rfl⟩ := hcs
      exact ⟨[], .inl ⟨rfl, rfl, rfl, rfl⟩⟩
    · simp [Value.cells] at hcs
      obtain ⟨rfl, rfl, rfl⟩ := hcs
      exact ⟨zs, .inr ⟨_, rfl, hl, hm, by simpa using hz, hcell, hwz⟩⟩
  obtain ⟨a1, rfl, rfl, rfl, w1⟩ := open_int Try.underlying5 (hval 1 5 v1 rfl rfl) h1
  clear hA0 hval0
  refine (walk a0 len0 cap0 z0 a1 W w0 w1).mono fun e W' ⟨he, bel⟩ => ?_
  subst he
  exact ⟨_, rfl, _, _, _, [], _, [], hW', trodAll_mk1 (shut_bool Try.underlying4 _), (trodAll_cons_mk (Below.trod laidOut (by kernel_rfl) (of_decide_eq_true (by kernel_rfl)) k0 bel lt0) (trodAll_cons_mk (shut_int Try.underlying5 w1) trodAll_mk0)), rfl, bel.frame _, fun h => by cases h⟩

theorem over : Rows.joinSeenRow.holds Try.pinned (OpenSpec.ofChange Rows.joinSeenSpec) :=
  OpenClaim.holds_of_wide 11 Try.f11 rfl rfl rfl rfl rfl rfl rfl ⟨rfl, rfl, rfl, rfl, rfl⟩ rfl rfl rfl rfl rfl (by kernel_rfl) Try.func11 (by kernel_rfl)
    (of_decide_eq_true (by kernel_rfl)) (by unfold Func.isWrapper; first | (rw [if_pos (by decide +kernel)]; kernel_rfl) | (rw [if_neg (by decide +kernel)]; exact ⟨rfl, rfl⟩))
    (fun os started H enc _ => lifted os started H enc)

theorem proved : Rows.JoinSeenSaid := over
#print axioms proved
end Go.Proofs.Ytkjjgbcbgjgjeaa.joinSeen
