/- buffer.from, Since. -/
import Derived.Test.YtbdpckphlagijaaDoorBuAt
import Derived.Test.YtbdpckphlagijaaDoorBuFit
set_option linter.unusedVariables false
namespace Go.Proofs.YtbdpckphlagijaaDoor.Bf
open Go Go.RowKit Go.Proofs.YtbdpckphlagijaaDoor.Mm Go.Proofs.YtbdpckphlagijaaDoor.Td Go.Proofs.YtbdpckphlagijaaDoor.Dt Go.Proofs.YtbdpckphlagijaaDoor.Er

/-- The slice of states from place k on. -/
theorem cut_from {w : World} {A : Option Addr} {n c k : Nat} {ls : List St} (hb : BL w A n c ls) (hk : k ≤ n) : ∃ A', (∀ W, (Instr.slice 24 (.slice A n c) (some (.int .i64 (k : Int))) none none).run Tryd.prog W = .ok (.slice A' (n - k) (c - k)) W) ∧ BL w A' (n - k) (c - k) (ls.drop k) := by
  have h1 : (0 : Int) ≤ (k : Int) := by omega
  have h2 : (k : Int) ≤ (n : Int) := by omega
  have hc := hb.le
  cases A with
  | none =>
    have hc0 := hb.nil rfl
    subst hc0
    obtain rfl : n = 0 := by omega
    obtain rfl : k = 0 := by omega
    refine ⟨none, fun W => ?_, by rw [List.drop_zero]; exact hb⟩
    simp [Instr.slice, run_underlying Tryd.underlying24, Instr.sliceBounds, run_sliceBound]
  | some x =>
    obtain ⟨g, o, f⟩ := x
    obtain rfl : f = none := hb.spot _ rfl
    refine ⟨some ⟨g, if c = k then o else o + k * 2, none⟩, fun W => ?_, ⟨?_, by omega, fun h => (by cases h), fun x hx => (by cases hx; rfl)⟩⟩
    · simp [Instr.slice, run_underlying Tryd.underlying24, Instr.sliceBounds, run_sliceBound, h1, h2]
      split
      · rfl
      · simp [Addr.add]
    · by_cases he : c = k
      · obtain rfl : n = k := by omega
        rw [Nat.sub_self]
        exact ⟨by rw [List.length_drop, hb.al.1, Nat.sub_self], fun h => absurd h (by omega)⟩
      · rw [if_neg he]
        exact hb.al.drop hk
theorem cut_upto {w : World} {A : Option Addr} {n c m : Nat} {ls : List St} (hb : BL w A n c ls) (hm : m ≤ n) : (∀ W, (Instr.slice 24 (.slice A n c) none (some (.int .i64 (m : Int))) none).run Tryd.prog W = .ok (.slice A m c) W) ∧ BL w A m c (ls.take m) := by
  have h1 : (0 : Int) ≤ (m : Int) := by omega
  have hc := hb.le
  have h2 : (m : Int) ≤ (c : Int) := by omega
  refine ⟨fun W => ?_, hb.al.take hm, by omega, hb.nil, hb.spot⟩
  cases A with
  | none =>
    have hc0 := hb.nil rfl
    subst hc0
    obtain rfl : n = 0 := by omega
    obtain rfl : m = 0 := by omega
    simp [Instr.slice, run_underlying Tryd.underlying24, Instr.sliceBounds, run_sliceBound]
  | some x =>
    simp [Instr.slice, run_underlying Tryd.underlying24, Instr.sliceBounds, run_sliceBound, h1, h2]
    exact fun _ => rfl

/-- What from tells. -/
def FromIs (ls : List St) (w : World) (e : Ending) (w' : World) : Prop := ∃ A m c, e = .returned (.tuple #[.slice A m c, .nilIface]) ∧ BL w' A m c ls ∧ w.grownBy w' none
set_option maxHeartbeats 8000000 in
set_option maxRecDepth 100000 in
theorem from_some (first m : Int) (many : Nat) (A : Option Addr) (n c k : Nat) (ls : List St) (a b : Addr) (w : World) (hb : BL w A n c ls) (hE : Ers w a b) (h0 : 0 ≤ first) (h1 : first ≤ 4503599627370496) (hm : m = first + (k : Int)) (hk : k ≤ n) (hn : n ≤ 1000000) (hmany : many ≤ 1000000) :
    Calls Tryd.prog 17 #[.agg #[.int .i64 first, .slice A n c], .int .i64 m, .int .i64 (many : Int)] w (FromIs ((ls.drop k).take many) w) := by
  obtain ⟨A', hS, hb2⟩ := cut_from hb hk
  obtain ⟨M, hM⟩ : ∃ M, min many (n - k) = M := ⟨_, rfl⟩
  obtain ⟨hT, hb3⟩ := cut_upto hb2 (m := M) (by omega)
  have hMl : (ls.drop k).take many = (ls.drop k).take M := by
    have hl : (ls.drop k).length = n - k := by rw [List.length_drop, hb.al.1]
    by_cases h : many ≤ n - k
    · rw [← hM, Nat.min_eq_left h]
    · rw [← hM, Nat.min_eq_right (by omega), List.take_of_length_le (by omega), List.take_of_length_le (by omega)]
  rw [hMl]
  have Hb3 := Lib.hid hb3
  have HA : Hid (∀ W, w.grownBy W none → Calls Tryd.prog 19 #[.agg #[.int .i64 first, .slice A n c], .int .i64 m] W (AheadIs first n m a b W)) := fun W hW => ahead_any first m A n c a b W (hE.keep hW) h0 h1 (by omega) hn
  have HX : Hid (∀ q v, Ahead first n m a b q v → q = (k : Int) ∧ v = .nilIface) := fun q v h => by
    rcases h with ⟨h, _⟩ | ⟨h, _⟩ | ⟨_, _, h2, h3⟩
    · omega
    · omega
    · exact ⟨by omega, h3⟩
  have hS' := hS
  have hT' := hT
  have d1 : decide ((many : Int) < 0) = false := decide_eq_false (by omega)
  have hmin : min (many : Int) ((n - k : Nat) : Int) = (M : Int) := by omega
  clear hb hE h0 h1 hm hb2 hb3 hMl hS hT
  go_enter Tryd.func17, Tryd.ntmps17
  go_wp2_with (go_at_call 19; refine (HA.out _ (gb_alloc (gb_refl _ _) _)).mono ?_; rintro e w1 ⟨q, v, rfl, hq, g1⟩; obtain ⟨rfl, rfl⟩ := HX.out _ _ hq; have hr := Row.new w 32 #[.int .i64 first, .slice A n c]; have z0 := (hr.kept g1 (by simp)).at_ (i := 0) rfl; have z1 := (hr.kept g1 (by simp)).at_ (i := 1) rfl; have Hg1 := Lib.hid (gb_none (gb_alloc (gb_refl w none) _) g1); clear hr g1 hq)
  go_ret2
  exact ⟨A', M, _, rfl, Hb3.out.keep Hg1.out, Hg1.out⟩
set_option maxHeartbeats 8000000 in
set_option maxRecDepth 100000 in
theorem from_none (first m : Int) (many : Nat) (A : Option Addr) (n c : Nat) (a b : Addr) (w : World) (hE : Ers w a b) (h0 : 0 ≤ first) (h1 : first ≤ 4503599627370496) (hm : m ≤ 4503599629370496) (hno : m < first ∨ first + (n : Int) < m) (hn : n ≤ 1000000) :
    Calls Tryd.prog 17 #[.agg #[.int .i64 first, .slice A n c], .int .i64 m, .int .i64 (many : Int)] w fun e w' => (∃ p q x, e = .returned (.tuple #[.slice none 0 0, refV p q x])) ∧ w.grownBy w' none := by
  have HA : Hid (∀ W, w.grownBy W none → Calls Tryd.prog 19 #[.agg #[.int .i64 first, .slice A n c], .int .i64 m] W (AheadIs first n m a b W)) := fun W hW => ahead_any first m A n c a b W (hE.keep hW) h0 h1 hm hn
  have HX : Hid (∀ q v, Ahead first n m a b q v → ∃ p r x, q = 0 ∧ v = refV p r x) := fun q v h => by
    rcases h with ⟨_, h, p, r, e⟩ | ⟨_, h, p, r, e⟩ | ⟨h2, h3, _⟩
    · exact ⟨p, r, _, h, e⟩
    · exact ⟨p, r, _, h, e⟩
    · omega
  have d1 : decide ((many : Int) < 0) = false := decide_eq_false (by omega)
  clear hE h0 h1 hm hno hn
  go_enter Tryd.func17, Tryd.ntmps17
  go_wp2_with (go_at_call 19; refine (HA.out _ (gb_alloc (gb_refl _ _) _)).mono ?_; rintro e w1 ⟨q, v, rfl, hq, g1⟩; obtain ⟨p, r, x, rfl, rfl⟩ := HX.out _ _ hq; have Hg1 := Lib.hid (gb_none (gb_alloc (gb_refl w none) _) g1); clear g1 hq; unfold refV)
  refine bodyPost_ret (v := .tuple #[.slice none 0 0, refV p r x]) (by simp [results, Tryd.results17, go_sem]; rfl) rfl ?_
  exact ⟨⟨p, r, x, rfl⟩, Hg1.out⟩

/-- What Since tells, where it tells one. -/
def SinceIs (s : St) (w : World) (e : Ending) (w' : World) : Prop := ∃ A n c B m d, e = .returned (.tuple #[.agg #[.slice A n c, .slice B m d], .bool true]) ∧ SL w' A n B m s ∧ n ≤ c ∧ m ≤ d ∧ w.grownBy w' none
set_option maxHeartbeats 8000000 in
set_option maxRecDepth 100000 in
theorem since_some (first m : Int) (many : Nat) (A : Option Addr) (n c k : Nat) (ls : List St) (a b : Addr) (w : World) (hb : BL w A n c ls) (hf : Fit ls) (hE : Ers w a b) (h0 : 0 ≤ first) (h1 : first ≤ 4503599627370496) (hm : m = first + (k : Int)) (hk : k ≤ n) (hn : n ≤ 100000) (hmany : many ≤ 1000000) :
    Calls Tryd.prog 7 #[.agg #[.int .i64 first, .slice A n c], .int .i64 m, .int .i64 (many : Int)] w (SinceIs (allS ((ls.drop k).take many)) w) := by
  obtain ⟨h, hh⟩ : ∃ h, w.heap.size + 1 = h := ⟨_, rfl⟩
  obtain ⟨W0, hW0⟩ : ∃ W0, (w.alloc (.cells #[.int .i64 first, .slice A n c] 32)).alloc (.cells #[.slice none 0 0, .slice none 0 0] 28) = W0 := ⟨_, rfl⟩
  have G0 : w.grownBy W0 none := by rw [← hW0]; exact gb_alloc (gb_alloc (gb_refl _ _) _) _
  have HR0 : Hid (Row W0 h 28 #[.slice none 0 0, .slice none 0 0]) := by
    rw [← hW0, ← hh]
    have h := Row.new (w.alloc (.cells #[.int .i64 first, .slice A n c] 32)) 28 #[.slice none 0 0, .slice none 0 0]
    rw [World.size_alloc] at h
    exact h
  have HRb : Hid (Row W0 w.heap.size 32 #[.int .i64 first, .slice A n c]) := by rw [← hW0]; exact (Row.new _ _ _).alloc _
  have Hh : Hid (w.heap.size ≤ h) := by show _ ≤ _; omega
  have HG := Lib.hid G0
  have y0 := HRb.out.at_ (i := 0) rfl
  have y1 := HRb.out.at_ (i := 1) rfl
  have HF : Hid (Calls Tryd.prog 17 #[.agg #[.int .i64 first, .slice A n c], .int .i64 m, .int .i64 (many : Int)] W0 (FromIs ((ls.drop k).take many) W0)) := from_some first m many A n c k ls a b W0 (hb.keep G0) (hE.keep G0) h0 h1 hm hk (by omega) hmany
  have HP : Hid (∀ A' M c' W, BL W A' M c' ((ls.drop k).take many) → Calls Tryd.prog 18 #[.slice A' M c'] W (States (allS ((ls.drop k).take many)) W)) := fun A' M c' W h => pAll_any M A' c' _ W h.al (hf.parts k many) h.le (by have h2 := h.al.1; rw [List.length_take, List.length_drop, hb.al.1] at h2; omega)
  clear G0 hb hf hE h0 h1 hm hk hn hmany
  go_enter Tryd.func7, Tryd.ntmps7
  go_upto_region 1 with fail
  clear hW0 hh
  go_wp2_with (first
    | (go_at_call 17; refine HF.out.mono ?_; rintro e w1 ⟨A1, M1, c1, rfl, hb1, g1⟩; have Hb1 := Lib.hid hb1; have Hg1 := Lib.hid g1; clear hb1 g1)
    | (go_at_call 18; refine (HP.out A1 M1 c1 w1 Hb1.out).mono ?_; rintro e w2 ⟨A2, n2, c2, B2, m2, d2, rfl, hs2, hc2, hd2, g2⟩; have hr := HR0.out.kept (gb_none Hg1.out g2) (by simp); have q0 := hr.free 0; have q1 := hr.free 1; have u0 := hr.at_ (i := 0) rfl; have u1 := hr.at_ (i := 1) rfl; have Hr := Lib.hid hr; have Hs2 := Lib.hid hs2; have Hcd : Hid (n2 ≤ c2 ∧ m2 ≤ d2) := ⟨hc2, hd2⟩; have Hg2 := Lib.hid (gb_none (gb_none HG.out Hg1.out) g2); clear hr hs2 hc2 hd2 g2))
  have g1 := gb_set1 w2 h 0 (.slice A2 n2 c2)
  have x1 := Hr.out.set_ 0 (.slice A2 n2 c2)
  have g2 := gb_set1 (w2.setCell ⟨h, 0, none⟩ (.slice A2 n2 c2)) h 1 (.slice B2 m2 d2)
  have x2 := x1.set_ 1 (.slice B2 m2 d2)
  have v0 := x2.at_ (i := 0) rfl
  have v1 := x2.at_ (i := 1) rfl
  refine bodyPost_ret (v := .tuple #[.agg #[.slice A2 n2 c2, .slice B2 m2 d2], .bool true]) (by simp [results, Tryd.results7, go_sem, v0, v1]) rfl ?_
  exact ⟨A2, n2, c2, B2, m2, d2, rfl, sl_beside (sl_beside Hs2.out g1 Hr.out) g2 x1, Hcd.out.1, Hcd.out.2, gb_new (gb_new Hg2.out g1 Hh.out) g2 Hh.out⟩
set_option maxHeartbeats 8000000 in
set_option maxRecDepth 100000 in
theorem since_none (first m : Int) (many : Nat) (A : Option Addr) (n c : Nat) (a b : Addr) (w : World) (hE : Ers w a b) (h0 : 0 ≤ first) (h1 : first ≤ 4503599627370496) (hm : m ≤ 4503599629370496) (hno : m < first ∨ first + (n : Int) < m) (hn : n ≤ 100000) :
    Calls Tryd.prog 7 #[.agg #[.int .i64 first, .slice A n c], .int .i64 m, .int .i64 (many : Int)] w fun e w' => e = .returned (.tuple #[.agg #[.slice none 0 0, .slice none 0 0], .bool false]) ∧ w.grownBy w' none := by
  obtain ⟨h, hh⟩ : ∃ h, w.heap.size + 1 = h := ⟨_, rfl⟩
  obtain ⟨W0, hW0⟩ : ∃ W0, (w.alloc (.cells #[.int .i64 first, .slice A n c] 32)).alloc (.cells #[.slice none 0 0, .slice none 0 0] 28) = W0 := ⟨_, rfl⟩
  have G0 : w.grownBy W0 none := by rw [← hW0]; exact gb_alloc (gb_alloc (gb_refl _ _) _) _
  have HR0 : Hid (Row W0 h 28 #[.slice none 0 0, .slice none 0 0]) := by
    rw [← hW0, ← hh]
    have h := Row.new (w.alloc (.cells #[.int .i64 first, .slice A n c] 32)) 28 #[.slice none 0 0, .slice none 0 0]
    rw [World.size_alloc] at h
    exact h
  have HRb : Hid (Row W0 w.heap.size 32 #[.int .i64 first, .slice A n c]) := by rw [← hW0]; exact (Row.new _ _ _).alloc _
  have Hh : Hid (w.heap.size ≤ h) := by show _ ≤ _; omega
  have HG := Lib.hid G0
  have y0 := HRb.out.at_ (i := 0) rfl
  have y1 := HRb.out.at_ (i := 1) rfl
  have HF := Lib.hid (from_none first m many A n c a b W0 (hE.keep G0) h0 h1 hm hno (by omega))
  clear G0 hE h0 h1 hm hno hn
  go_enter Tryd.func7, Tryd.ntmps7
  go_upto_region 1 with fail
  clear hW0 hh
  go_wp2_with (go_at_call 17; refine HF.out.mono ?_; rintro e w1 ⟨⟨p, q, x, rfl⟩, g1⟩; have hr := HR0.out.kept g1 (by simp); have q0 := hr.free 0; have q1 := hr.free 1; have u0 := hr.at_ (i := 0) rfl; have u1 := hr.at_ (i := 1) rfl; have Hr := Lib.hid hr; have Hg1 := Lib.hid (gb_none HG.out g1); clear g1 hr; unfold refV)
  have g1 := gb_set1 w1 h 0 (.slice none 0 0)
  have x1 := Hr.out.set_ 0 (.slice none 0 0)
  have g2 := gb_set1 (w1.setCell ⟨h, 0, none⟩ (.slice none 0 0)) h 1 (.slice none 0 0)
  have x2 := x1.set_ 1 (.slice none 0 0)
  have v0 := x2.at_ (i := 0) rfl
  have v1 := x2.at_ (i := 1) rfl
  refine bodyPost_ret (v := .tuple #[.agg #[.slice none 0 0, .slice none 0 0], .bool false]) (by simp [results, Tryd.results7, go_sem, v0, v1]) rfl ?_
  exact ⟨rfl, gb_new (gb_new Hg1.out g1 Hh.out) g2 Hh.out⟩
end Go.Proofs.YtbdpckphlagijaaDoor.Bf
