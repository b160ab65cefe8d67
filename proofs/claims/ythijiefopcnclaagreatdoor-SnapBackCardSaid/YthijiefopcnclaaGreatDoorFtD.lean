/- slices.Equal, Same: the program's and the document's. What the laws of stage 8 call: awake. Great: more than the laws go through. -/
import Derived.Test.YthijiefopcnclaaGreatDoorFtA
import Derived.Test.YthijiefopcnclaaGreatDoorDtC
import Derived.Test.YthijiefopcnclaaGreatDoorFtMay
import Derived.Test.YthijiefopcnclaaGreatDoorFtFindW
import Derived.Test.YthijiefopcnclaaGreatDoorTdA
namespace Go.Proofs.YthijiefopcnclaaGreatDoor.Dt
open Go Go.RowKit Go.Proofs.YthijiefopcnclaaGreatDoor.Mm Go.Proofs.YthijiefopcnclaaGreatDoor.Td

theorem SameIs.yes {a b : List Rn} {w w' : World} {e : Ending} (h : SameIs a b w e w') (hp : a = b) : e = .returned (.bool true) ∧ w.grownBy w' none := BoolIs.yes (p := a = b) h hp
theorem SameIs.no {a b : List Rn} {w w' : World} {e : Ending} (h : SameIs a b w e w') (hp : ¬ a = b) : e = .returned (.bool false) ∧ w.grownBy w' none := BoolIs.no (p := a = b) h hp

set_option maxHeartbeats 8000000 in
set_option maxRecDepth 100000 in
theorem refSameSt_any (A B A' B' : Option Addr) (p c n d q c' m d' : Nat) (s t : St) (w : World) (hs : SL w A p B n s) (ht : SL w A' q B' m t) (hp : p ≤ 100000) (hn : n ≤ 100000) (hq : q ≤ 100000) (hm : m ≤ 100000) :
    Calls Tryz.prog 13 #[.agg #[.slice A p c, .slice B n d], .agg #[.slice A' q c', .slice B' m d']] w (BoolIs (s = t) w) := by
  obtain ⟨sa, a⟩ := s
  obtain ⟨sb, b⟩ := t
  obtain ⟨W0, hW0⟩ : ∃ W0, (w.alloc (.cells #[.slice A p c, .slice B n d] 25)).alloc (.cells #[.slice A' q c', .slice B' m d'] 25) = W0 := ⟨_, rfl⟩
  have G0 : w.grownBy W0 none := by rw [← hW0]; exact gb_alloc (gb_alloc (gb_refl _ _) _) _
  have hr0 : Row W0 w.heap.size 25 #[.slice A p c, .slice B n d] := by rw [← hW0]; exact (Row.new _ _ _).alloc _
  have hr1 : Row W0 (w.heap.size + 1) 25 #[.slice A' q c', .slice B' m d'] := by
    rw [← hW0]
    have h := Row.new (w.alloc (.cells #[.slice A p c, .slice B n d] 25)) 25 #[.slice A' q c', .slice B' m d']
    rwa [World.size_alloc] at h
  have HC : Hid (∀ W, W0.grownBy W none → W.cell? ⟨w.heap.size, 0, none⟩ = some (.slice A p c) ∧ W.cell? ⟨w.heap.size, 1, none⟩ = some (.slice B n d) ∧ W.cell? ⟨w.heap.size + 1, 0, none⟩ = some (.slice A' q c') ∧ W.cell? ⟨w.heap.size + 1, 1, none⟩ = some (.slice B' m d')) :=
    fun W hW => ⟨(hr0.kept hW (by simp)).at_ (i := 0) rfl, (hr0.kept hW (by simp)).at_ (i := 1) rfl, (hr1.kept hW (by simp)).at_ (i := 0) rfl, (hr1.kept hW (by simp)).at_ (i := 1) rfl⟩
  have Hs := Lib.hid (hs.keep G0)
  have Ht := Lib.hid (ht.keep G0)
  have HG := Lib.hid G0
  obtain ⟨z0, z1, z2, z3⟩ := HC.out W0 (gb_refl _ _)
  clear hr0 hr1 hs ht G0
  have Hseen := Lib.hid (refSame_any A A' p c q c' sa sb W0 Hs.out.1 Ht.out.1 (by omega) (by omega))
  by_cases h1 : sa = sb
  · have Hyes : Hid (∀ e w', SameIs sa sb W0 e w' → e = .returned (.bool true) ∧ W0.grownBy w' none) := fun e w' h => h.yes h1
    have H1 := Lib.hid h1
    clear h1
    by_cases hnm : n = m
    · subst hnm
      have e0 : ((n : Int) != (n : Int)) = false := by simp
      go_enter Tryz.func13, Tryz.ntmps13
      go_upto_region 1 with fail
      clear hW0
      go_wp2_with (go_at_call 34; refine Hseen.out.mono ?_; intro e w1 hh; obtain ⟨he, g1⟩ := Hyes.out e w1 hh; clear hh; subst he; obtain ⟨y0, y1, y2, y3⟩ := HC.out w1 g1)
      have HC1 : Hid (∀ W, w1.grownBy W none → W.cell? ⟨w.heap.size, 0, none⟩ = some (.slice A p c) ∧ W.cell? ⟨w.heap.size, 1, none⟩ = some (.slice B n d) ∧ W.cell? ⟨w.heap.size + 1, 0, none⟩ = some (.slice A' q c') ∧ W.cell? ⟨w.heap.size + 1, 1, none⟩ = some (.slice B' n d')) := fun W hW => HC.out W (gb_none g1 hW)
      have HGall : Hid (w.grownBy w1 none) := gb_none HG.out g1
      have Ha := Lib.hid (Hs.out.2.keep g1)
      have Hb := Lib.hid (Ht.out.2.keep g1)
      clear y0 y1 y2 y3 z0 z1 z2 z3 g1
      go_loopw [5] (fun i wr => ∃ k : Nat, k ≤ n ∧ i = .int .i64 k ∧ Hid (a.take k = b.take k) ∧ w1.grownBy wr none) (fun i _ => n - (intOf i).toNat)
      case atStart => exact ⟨0, Nat.zero_le _, rfl, by show _ = _; rfl, gb_refl _ _⟩
      case round =>
        obtain ⟨k, hk, rfl, HX, hg⟩ := hrel
        obtain ⟨y0, y1, y2, y3⟩ := HC1.out wr hg
        by_cases hlt : k < n
        · have d1 : decide (k < n) = true := decide_eq_true hlt
          have d2 : decide ((k : Int) < (n : Int)) = true := decide_eq_true (by omega)
          have bk : (k : Int) < (n : Int) := by omega
          obtain ⟨g, o, rfl, hgl, hcc⟩ := (Ha.out.keep hg).2 (by omega)
          obtain ⟨g', o', rfl, hgl', hcc'⟩ := (Hb.out.keep hg).2 (by omega)
          obtain ⟨x, hx⟩ : ∃ x, a[k]? = some x := ⟨_, List.getElem?_eq_getElem (by rw [Ha.out.1]; exact hlt)⟩
          obtain ⟨y, hy⟩ : ∃ y, b[k]? = some y := ⟨_, List.getElem?_eq_getElem (by rw [Hb.out.1]; exact hlt)⟩
          obtain ⟨h0, h1, h2, h3, h4, h5⟩ := hcc k x hx
          obtain ⟨i0, i1, i2, i3, i4, i5⟩ := hcc' k y hy
          have Hx := Lib.hid hx
          have Hy := Lib.hid hy
          clear hcc hcc' hx hy
          have hq := fun (W : World) => factT_neq x y W
          have hG := factT_guard
          have hT := ftake_more Hx.out
          have hT2 := ftake_more Hy.out
          by_cases hxy : x = y
          · have he : eqF x y = true := (eqF_iff x y).2 hxy
            have Hnext : Hid (a.take (k + 1) = b.take (k + 1)) := by show _ = _; rw [hT, hT2, HX.out, hxy]
            rw [he] at hq
            clear hT hT2 hxy he
            go_wp2_with fail
            go_quiet (fail)
            go_wp2_with fail
            go_roundw
            case rel => exact ⟨k + 1, by omega, by go_num, Hnext, gb_drewN hg _⟩
            case measure => simp [intOf]; omega
          · have he : eqF x y = false := by
              cases h : eqF x y with
              | false => rfl
              | true => exact absurd ((eqF_iff x y).1 h) hxy
            have Hno : Hid (a ≠ b) := fun h => hxy (by
                have h1 := Hx.out
                rw [h, Hy.out] at h1
                exact (Option.some.inj h1).symm)
            rw [he] at hq
            clear hT hT2 hxy he
            go_wp2_with fail
            go_quiet (fail)
            go_wp2_with fail
            go_ret
            exact ⟨⟨false, rfl, by simp [Hno.out]⟩, gb_drewN (gb_none HGall.out hg) _⟩
        · have hkn : k = n := by omega
          subst hkn
          have d1 : decide (k < k) = false := by simp
          have d2 : decide ((k : Int) < (k : Int)) = false := by simp
          have He : Hid (a = b) := by
            show a = b
            have h := HX.out
            rwa [List.take_of_length_le (by rw [Ha.out.1]; exact Nat.le_refl _), List.take_of_length_le (by rw [Hb.out.1]; exact Nat.le_refl _)] at h
          go_wp2_with fail
          go_ret
          exact ⟨⟨true, rfl, by simp [H1.out, He.out]⟩, gb_none HGall.out hg⟩
    · have e0 : ((n : Int) != (m : Int)) = true := by rw [bne_iff_ne]; omega
      have Hno : Hid (a ≠ b) := fun h => hnm (by rw [← Hs.out.2.1, ← Ht.out.2.1]; exact congrArg List.length h)
      clear hnm
      go_enter Tryz.func13, Tryz.ntmps13
      go_upto_region 1 with fail
      clear hW0
      go_wp2_with (go_at_call 34; refine Hseen.out.mono ?_; intro e w1 hh; obtain ⟨he, g1⟩ := Hyes.out e w1 hh; clear hh; subst he; obtain ⟨y0, y1, y2, y3⟩ := HC.out w1 g1)
      go_ret
      exact ⟨⟨false, rfl, by simp [Hno.out]⟩, gb_none HG.out g1⟩
  · have Hyes : Hid (∀ e w', SameIs sa sb W0 e w' → e = .returned (.bool false) ∧ W0.grownBy w' none) := fun e w' h => h.no h1
    have H1 := Lib.hid h1
    clear h1
    go_enter Tryz.func13, Tryz.ntmps13
    go_upto_region 1 with fail
    clear hW0
    go_wp2_with (go_at_call 34; refine Hseen.out.mono ?_; intro e w1 hh; obtain ⟨he, g1⟩ := Hyes.out e w1 hh; clear hh; subst he)
    go_ret
    exact ⟨⟨false, rfl, by simp [H1.out]⟩, gb_none HG.out g1⟩

end Go.Proofs.YthijiefopcnclaaGreatDoor.Dt

namespace Go.Proofs.YthijiefopcnclaaGreatDoor.Dt
open Go Go.RowKit Go.Proofs.YthijiefopcnclaaGreatDoor.Mm Go.Proofs.YthijiefopcnclaaGreatDoor.Td

theorem fl_new1 (w : World) (x : Fc) (t : TypeId) : FL (w.alloc (.cells #[.int .i64 x.d, .int .i64 x.n, .string x.key, .int .i64 x.kind, .string x.item, .int .i64 x.v] t)) (some ⟨w.heap.size, 0, none⟩) 1 [x] := by
  refine ⟨rfl, fun _ => ⟨w.heap.size, 0, rfl, by rw [World.size_alloc]; omega, fun i y hy => ?_⟩⟩
  have hi : i = 0 := by have := (List.getElem?_eq_some_iff.1 hy).1; simp at this; omega
  subst hi
  obtain rfl : x = y := by simpa using hy
  simpa using box6 w x t
theorem rl_one (w : World) (x : Rn) (t : TypeId) : RL (w.alloc (.cells #[.int .i64 x.d, .int .i64 x.f, .int .i64 x.t] t)) (some ⟨w.heap.size, 0, none⟩) 1 [x] := rl_new1 w x.d x.f x.t t
/-- The laws' example. -/
def wkF : Fc := ⟨0, 1, ⟨#[107]⟩, 1, ⟨#[118]⟩, 0⟩
def wkS : St := ⟨[⟨0, 1, 1⟩], [wkF]⟩
theorem wk_may : MayS wkS := by
  refine ⟨may_one ?_, by decide, fun f hf => ?_, List.pairwise_singleton _ _⟩
  · unfold Ok; decide
  · rw [List.mem_singleton.1 hf]
    refine ⟨by unfold RightF wkF; decide, ⟨0, 1, 1⟩, by simp [wkS], ?_⟩
    unfold In wkF; decide
theorem wk_find : findL wkS.facts ⟨#[107]⟩ 1 = [wkF] := by
  unfold findL wkS
  have h : Fits wkF ⟨#[107]⟩ 1 := ⟨rfl, .inr rfl⟩
  simp [h]
/-- Where the example lies. -/
def WkAt (h : Nat) (w W : World) : Prop := w.grownBy W none ∧ SL W (some ⟨h, 0, none⟩) 1 (some ⟨h + 1, 0, none⟩) 1 wkS ∧ W.cell? ⟨h + 2, 0, none⟩ = some (.slice (some ⟨h, 0, none⟩) 1 1) ∧ W.cell? ⟨h + 2, 1, none⟩ = some (.slice (some ⟨h + 1, 0, none⟩) 1 1) ∧ h + 2 < W.heap.size
theorem wk_at (w : World) : WkAt w.heap.size w (((w.alloc (.cells #[.int .i64 0, .int .i64 1, .int .i64 1] 50)).alloc (.cells #[.int .i64 0, .int .i64 1, .string ⟨#[107]⟩, .int .i64 1, .string ⟨#[118]⟩, .int .i64 0] 46)).alloc (.cells #[.slice (some ⟨w.heap.size, 0, none⟩) 1 1, .slice (some ⟨w.heap.size + 1, 0, none⟩) 1 1] 25)) := by
  have h1 := rl_one w ⟨0, 1, 1⟩ 50
  have h2 := fl_new1 (w.alloc (.cells #[.int .i64 0, .int .i64 1, .int .i64 1] 50)) wkF 46
  have h3 := Row.new ((w.alloc (.cells #[.int .i64 0, .int .i64 1, .int .i64 1] 50)).alloc (.cells #[.int .i64 0, .int .i64 1, .string ⟨#[107]⟩, .int .i64 1, .string ⟨#[118]⟩, .int .i64 0] 46)) 25 #[.slice (some ⟨w.heap.size, 0, none⟩) 1 1, .slice (some ⟨w.heap.size + 1, 0, none⟩) 1 1]
  rw [World.size_alloc] at h2
  rw [World.size_alloc, World.size_alloc] at h3
  refine ⟨gb_alloc (gb_alloc (gb_alloc (gb_refl _ _) _) _) _, ⟨(h1.keep (gb_alloc (gb_alloc (gb_refl _ _) _) _)), h2.keep (gb_alloc (gb_refl _ _) _)⟩, h3.at_ (i := 0) rfl, h3.at_ (i := 1) rfl, ?_⟩
  rw [World.size_alloc, World.size_alloc, World.size_alloc]; omega
theorem WkAt.next {h : Nat} {w W W' : World} (k : WkAt h w W) (g : W.grownBy W' none) : WkAt h w W' := by
  obtain ⟨k1, k2, k3, k4, k5⟩ := k
  exact ⟨gb_none k1 g, k2.keep g, (World.cell?_of_block (a := ⟨h + 2, 0, none⟩) (g.block _ k5 (by simp))).trans k3, (World.cell?_of_block (a := ⟨h + 2, 1, none⟩) (g.block _ k5 (by simp))).trans k4, Nat.lt_of_lt_of_le k5 g.size⟩
theorem cmp_flip (d n e m : Int) : cmpD e m d n = - cmpD d n e m := by
  by_cases h1 : Lt d n e m
  · have h2 : ¬ Lt e m d n := by unfold Lt at *; omega
    rw [cmp_lt h1, cmp_gt h2 (by unfold Lt at h1; omega)]; rfl
  · by_cases h2 : d = e ∧ n = m
    · rw [cmp_is h1 h2, cmp_is (by unfold Lt at *; omega) ⟨h2.1.symm, h2.2.symm⟩]; rfl
    · rw [cmp_gt h1 h2, cmp_lt (by unfold Lt at *; omega)]
theorem nl_three (w : World) (x y z : Int) (t : TypeId) (hx : 0 ≤ x ∧ x ≤ 255) (hy : 0 ≤ y ∧ y ≤ 255) (hz : 0 ≤ z ∧ z ≤ 255) : NL (w.alloc (.cells #[.int .u8 x, .int .u8 y, .int .u8 z] t)) (some ⟨w.heap.size, 0, none⟩) 3 [x, y, z] := by
  have hr := Row.new w t #[.int .u8 x, .int .u8 y, .int .u8 z]
  refine ⟨rfl, fun _ => ⟨w.heap.size, 0, rfl, hr.lt, fun i r h => ?_⟩, fun q hq => ?_⟩
  · have hi : i = 0 ∨ i = 1 ∨ i = 2 := by have := (List.getElem?_eq_some_iff.1 h).1; simp at this; omega
    rcases hi with rfl | rfl | rfl
    · obtain rfl : x = r := by simpa using h
      exact hr.at_ (i := 0) rfl
    · obtain rfl : y = r := by simpa using h
      exact hr.at_ (i := 1) rfl
    · obtain rfl : z = r := by simpa using h
      exact hr.at_ (i := 2) rfl
  · simp only [List.mem_cons, List.not_mem_nil, or_false] at hq
    rcases hq with rfl | rfl | rfl <;> assumption
end Go.Proofs.YthijiefopcnclaaGreatDoor.Dt

namespace Go.Proofs.YthijiefopcnclaaGreatDoor.Dt
open Go Go.RowKit Go.Proofs.YthijiefopcnclaaGreatDoor.Mm Go.Proofs.YthijiefopcnclaaGreatDoor.Td

def factsS (L : Nat) (l : List Fc) : Td.Spec := fun W v => ∃ A c, v = .slice A L c ∧ FL W A L l ∧ L ≤ c
theorem factsS_stays {L : Nat} {l : List Fc} : Stays (fun a b => a.grownBy b none) (factsS L l) := fun _ _ _ h ⟨A, c, e, hr, hc⟩ => ⟨A, c, e, hr.keep h, hc⟩
theorem BoolIs.is {p : Prop} {b : Bool} {w w' : World} {e : Ending} (h : BoolIs p w e w') (hb : b = true ↔ p) : e = .returned (.bool b) ∧ w.grownBy w' none := by
  obtain ⟨⟨q, rfl, hq⟩, hg⟩ := h
  have : q = b := by rw [Bool.eq_iff_iff, hq, hb]
  rw [this]; exact ⟨rfl, hg⟩
theorem asB (p : Prop) : ∃ b : Bool, b = true ↔ p := by
  by_cases h : p
  · exact ⟨true, by simp [h]⟩
  · exact ⟨false, by simp [h]⟩
theorem rows5 (w : World) (X1 X2 X3 X4 X5 : Array Value) (t1 t2 t3 t4 t5 : TypeId) : ∃ W, (((((w.alloc (.cells X1 t1)).alloc (.cells X2 t2)).alloc (.cells X3 t3)).alloc (.cells X4 t4)).alloc (.cells X5 t5)) = W ∧ w.grownBy W none ∧ Row W w.heap.size t1 X1 ∧ Row W (w.heap.size + 1) t2 X2 ∧ Row W (w.heap.size + 1 + 1) t3 X3 ∧ Row W (w.heap.size + 1 + 1 + 1) t4 X4 ∧ Row W (w.heap.size + 1 + 1 + 1 + 1) t5 X5 := by
  have h2 := Row.new (w.alloc (.cells X1 t1)) t2 X2
  have h3 := Row.new ((w.alloc (.cells X1 t1)).alloc (.cells X2 t2)) t3 X3
  have h4 := Row.new (((w.alloc (.cells X1 t1)).alloc (.cells X2 t2)).alloc (.cells X3 t3)) t4 X4
  have h5 := Row.new ((((w.alloc (.cells X1 t1)).alloc (.cells X2 t2)).alloc (.cells X3 t3)).alloc (.cells X4 t4)) t5 X5
  simp only [World.size_alloc] at h2 h3 h4 h5
  exact ⟨_, rfl, gb_alloc (gb_alloc (gb_alloc (gb_alloc (gb_alloc (gb_refl _ _) _) _) _) _) _, ((((Row.new w t1 X1).alloc _).alloc _).alloc _).alloc _, ((h2.alloc _).alloc _).alloc _, (h3.alloc _).alloc _, h4.alloc _, h5⟩
def Big (x : Fc) : Prop := 100 < x.key.size ∨ 400 < x.item.size
def GreatP (s : St) : Prop := (∃ x ∈ s.facts.take 100, Big x) ∨ 60 < s.seen.length ∨ 80 < s.facts.length
set_option maxHeartbeats 8000000 in
set_option maxRecDepth 100000 in
theorem great_any (A B : Option Addr) (p c n d : Nat) (s : St) (w : World) (hs : SL w A p B n s) :
    Calls Tryz.prog 7 #[.agg #[.slice A p c, .slice B n d]] w (BoolIs (GreatP s) w) := by
  obtain ⟨rs, l⟩ := s
  obtain ⟨W0, hW0⟩ : ∃ W0, w.alloc (.cells #[.slice A p c, .slice B n d] 25) = W0 := ⟨_, rfl⟩
  have G0 : w.grownBy W0 none := by rw [← hW0]; exact gb_alloc (gb_refl _ _) _
  have hr0 : Row W0 w.heap.size 25 #[.slice A p c, .slice B n d] := by rw [← hW0]; exact Row.new _ _ _
  have HC : Hid (∀ W, W0.grownBy W none → W.cell? ⟨w.heap.size, 0, none⟩ = some (.slice A p c) ∧ W.cell? ⟨w.heap.size, 1, none⟩ = some (.slice B n d)) :=
    fun W hW => ⟨(hr0.kept hW (by simp)).at_ (i := 0) rfl, (hr0.kept hW (by simp)).at_ (i := 1) rfl⟩
  have Hs := Lib.hid (hs.keep G0)
  have HG := Lib.hid G0
  obtain ⟨z0, z1⟩ := HC.out W0 (gb_refl _ _)
  clear hr0 hs G0
  go_enter Tryz.func7, Tryz.ntmps7
  go_upto_region 1 with fail
  clear hW0 z0 z1
  go_wp2_with fail
  go_loopw [3] (fun i wr => ∃ k : Nat, k ≤ n ∧ k ≤ 100 ∧ i = .int .i64 k ∧ Hid (∀ x ∈ l.take k, ¬ Big x) ∧ W0.grownBy wr none) (fun i _ => 100 - (intOf i).toNat)
  case atStart => exact ⟨0, Nat.zero_le _, Nat.zero_le _, rfl, (fun x hx => by simp at hx), gb_refl _ _⟩
  case round =>
    obtain ⟨k, hk, hk100, rfl, HX, hg⟩ := hrel
    obtain ⟨y0, y1⟩ := HC.out wr hg
    by_cases hlt : k < n
    · have d1 : decide (k < n) = true := decide_eq_true hlt
      have d2 : decide ((k : Int) < (n : Int)) = true := decide_eq_true (by omega)
      have bk : (k : Int) < (n : Int) := by omega
      by_cases hl1 : k < 100
      · have d3 : decide (k < 100) = true := decide_eq_true hl1
        have d4 : decide ((k : Int) < 100) = true := decide_eq_true (by omega)
        obtain ⟨g, o, rfl, hgl, hcc⟩ := (Hs.out.2.keep hg).2 (by omega)
        obtain ⟨x, hx⟩ : ∃ x, l[k]? = some x := ⟨_, List.getElem?_eq_getElem (by have := Hs.out.2.1; dsimp only at this; rw [this]; exact hlt)⟩
        obtain ⟨h0, h1, h2, h3, h4, h5⟩ := hcc k x hx
        have Hmem : Hid (x ∈ l.take 100) := by
          show x ∈ _
          exact List.mem_of_getElem? (i := k) (by rw [List.getElem?_take, if_pos hl1]; exact hx)
        have Hx := Lib.hid hx
        clear hcc hx
        by_cases b1 : 100 < x.key.size
        · have e1 : decide (100 < x.key.size) = true := decide_eq_true b1
          have e2 : decide ((100 : Int) < (x.key.size : Int)) = true := decide_eq_true (by omega)
          have HE : Hid (GreatP ⟨rs, l⟩) := .inl ⟨x, Hmem.out, .inl b1⟩
          go_wp2_with fail
          go_ret
          exact ⟨⟨true, rfl, by simp [HE.out]⟩, gb_none HG.out hg⟩
        · have e1 : decide (100 < x.key.size) = false := decide_eq_false b1
          have e2 : decide ((100 : Int) < (x.key.size : Int)) = false := decide_eq_false (by omega)
          by_cases b2 : 400 < x.item.size
          · have e3 : decide (400 < x.item.size) = true := decide_eq_true b2
            have e4 : decide ((400 : Int) < (x.item.size : Int)) = true := decide_eq_true (by omega)
            have HE : Hid (GreatP ⟨rs, l⟩) := .inl ⟨x, Hmem.out, .inr b2⟩
            go_wp2_with fail
            go_ret
            exact ⟨⟨true, rfl, by simp [HE.out]⟩, gb_none HG.out hg⟩
          · have e3 : decide (400 < x.item.size) = false := decide_eq_false b2
            have e4 : decide ((400 : Int) < (x.item.size : Int)) = false := decide_eq_false (by omega)
            have Hnext : Hid (∀ x ∈ l.take (k + 1), ¬ Big x) := fun z hz => by
              rw [ftake_more Hx.out] at hz
              rcases List.mem_append.1 hz with h | h
              · exact HX.out z h
              · rw [List.mem_singleton.1 h]; exact fun hb => hb.elim b1 b2
            clear b1 b2
            go_wp2_with fail
            go_roundw
            case rel => exact ⟨k + 1, by omega, by omega, by go_num, Hnext, hg⟩
            case measure => simp [intOf]; omega
      · have hk1 : k = 100 := by omega
        subst hk1
        have d3 : decide ((100 : Nat) < 100) = false := by decide
        have HN : Hid (∀ x ∈ l.take 100, ¬ Big x) := HX.out
        by_cases s1 : 60 < p
        · have e1 : decide (60 < p) = true := decide_eq_true s1
          have e2 : decide ((60 : Int) < (p : Int)) = true := decide_eq_true (by omega)
          have HE : Hid (GreatP ⟨rs, l⟩) := .inr (.inl (by show 60 < rs.length; rw [Hs.out.1.1]; exact s1))
          go_wp2_with fail
          go_ret
          exact ⟨⟨true, rfl, by simp [HE.out]⟩, gb_none HG.out hg⟩
        · have e1 : decide (60 < p) = false := decide_eq_false s1
          have e2 : decide ((60 : Int) < (p : Int)) = false := decide_eq_false (by omega)
          by_cases s2 : 80 < n
          · have e3 : decide (80 < n) = true := decide_eq_true s2
            have e4 : decide ((80 : Int) < (n : Int)) = true := decide_eq_true (by omega)
            have HE : Hid (GreatP ⟨rs, l⟩) := .inr (.inr (by show 80 < l.length; rw [Hs.out.2.1]; exact s2))
            go_wp2_with fail
            go_ret
            exact ⟨⟨true, rfl, by simp [HE.out]⟩, gb_none HG.out hg⟩
          · exfalso; omega
    · have hkn : k = n := by omega
      subst hkn
      have d1 : decide (k < k) = false := by simp
      have d2 : decide ((k : Int) < (k : Int)) = false := by simp
      have HN : Hid (∀ x ∈ l.take 100, ¬ Big x) := fun x hx => HX.out x (by rw [List.take_of_length_le (by have := Hs.out.2.1; dsimp only at this; rw [this]; exact Nat.le_refl _)]; exact List.mem_of_mem_take hx)
      by_cases s1 : 60 < p
      · have e1 : decide (60 < p) = true := decide_eq_true s1
        have e2 : decide ((60 : Int) < (p : Int)) = true := decide_eq_true (by omega)
        have HE : Hid (GreatP ⟨rs, l⟩) := .inr (.inl (by show 60 < rs.length; rw [Hs.out.1.1]; exact s1))
        go_wp2_with fail
        go_ret
        exact ⟨⟨true, rfl, by simp [HE.out]⟩, gb_none HG.out hg⟩
      · have e1 : decide (60 < p) = false := decide_eq_false s1
        have e2 : decide ((60 : Int) < (p : Int)) = false := decide_eq_false (by omega)
        by_cases s2 : 80 < k
        · have e3 : decide (80 < k) = true := decide_eq_true s2
          have e4 : decide ((80 : Int) < (k : Int)) = true := decide_eq_true (by omega)
          have HE : Hid (GreatP ⟨rs, l⟩) := .inr (.inr (by show 80 < l.length; rw [Hs.out.2.1]; exact s2))
          go_wp2_with fail
          go_ret
          exact ⟨⟨true, rfl, by simp [HE.out]⟩, gb_none HG.out hg⟩
        · have e3 : decide (80 < k) = false := decide_eq_false s2
          have e4 : decide ((80 : Int) < (k : Int)) = false := decide_eq_false (by omega)
          have HE : Hid (¬ GreatP ⟨rs, l⟩) := fun h => h.elim (fun ⟨x, hx, hb⟩ => HN.out x hx hb) fun h => h.elim (fun h => s1 (by rw [← Hs.out.1.1]; exact h)) fun h => s2 (by rw [← Hs.out.2.1]; exact h)
          go_wp2_with fail
          go_ret
          exact ⟨⟨false, rfl, by simp [HE.out]⟩, gb_none HG.out hg⟩
end Go.Proofs.YthijiefopcnclaaGreatDoor.Dt
