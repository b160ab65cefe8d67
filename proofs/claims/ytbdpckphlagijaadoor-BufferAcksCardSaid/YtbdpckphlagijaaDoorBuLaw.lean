/- Ack of any number; SameBuffer of two that are one; the laws' awake. Written by gen_bulaw.py. -/
import Derived.Test.YtbdpckphlagijaaDoorBuAck
import Derived.Test.YtbdpckphlagijaaDoorBuDel
import Derived.Test.YtbdpckphlagijaaDoorFtD
import Derived.Test.YtbdpckphlagijaaDoorTdA
set_option linter.unusedVariables false
namespace Go.Proofs.YtbdpckphlagijaaDoor.Bf
open Go Go.RowKit Go.Proofs.YtbdpckphlagijaaDoor.Mm Go.Proofs.YtbdpckphlagijaaDoor.Td Go.Proofs.YtbdpckphlagijaaDoor.Dt Go.Proofs.YtbdpckphlagijaaDoor.Er

/-- Ack, whatever the number. -/
theorem ack_any (first m : Int) (A : Option Addr) (n c : Nat) (ls : List St) (a b : Addr) (w : World) (hb : BL w A n c ls) (hp : ∀ s ∈ ls, Lens s) (hE : Ers w a b) (hf0 : 0 ≤ first) (hf1 : first ≤ 4503599627370496) (hm : m ≤ 4503599629370496) (hn : n ≤ 100000) :
    Calls Tryd.prog 8 #[.agg #[.int .i64 first, .slice A n c], .int .i64 m] w (BufIs (ackB ⟨first, ls⟩ m).first (ackB ⟨first, ls⟩ m).l w) := by
  have hl := hb.al.1
  have hk : ackN ⟨first, ls⟩ m = min (m - first).toNat n := by unfold ackN; rw [← hl]
  refine ack_at first m A n c (ackN ⟨first, ls⟩ m) ls a b w hb hp hE hf0 hf1 hm (by rw [hk]; exact Nat.min_le_right _ _) hn _ rfl ?_
  rw [hk]
  by_cases h1 : m < first
  · exact .inl ⟨h1, by omega⟩
  · by_cases h2 : first + (n : Int) < m
    · exact .inr (.inl ⟨h2, by omega⟩)
    · exact .inr (.inr (by omega))
attribute [local go_sem] Td.upon_value Td.upon_skip Td.upon_enter Td.upon_row Td.look_tmp Td.look_const Td.look_func Td.look_global
set_option maxHeartbeats 8000000 in
set_option maxRecDepth 100000 in
theorem same_buf (first : Int) (A B : Option Addr) (n c d : Nat) (ls : List St) (w : World) (ha : AL w A n ls) (hb : AL w B n ls) (hp : ∀ s ∈ ls, Lens s) (hn : n ≤ 100000) :
    Calls Tryd.prog 12 #[.agg #[.int .i64 first, .slice A n c], .agg #[.int .i64 first, .slice B n d]] w fun e w' => e = .returned (.bool true) ∧ w.grownBy w' none := by
  obtain ⟨b2, hb2⟩ : ∃ b2, w.heap.size = b2 := ⟨_, rfl⟩
  obtain ⟨b3, hb3⟩ : ∃ b3, b2 + 1 = b3 := ⟨_, rfl⟩
  obtain ⟨W0, hW0⟩ : ∃ W0, (w.alloc (.cells #[.int .i64 first, .slice A n c] 32)).alloc (.cells #[.int .i64 first, .slice B n d] 32) = W0 := ⟨_, rfl⟩
  have G0 : w.grownBy W0 none := by rw [← hW0]; exact gb_alloc (gb_alloc (gb_refl _ _) _) _
  have HR2 : Hid (Row W0 b2 32 #[.int .i64 first, .slice A n c]) := by rw [← hW0, ← hb2]; exact (Row.new _ _ _).alloc _
  have HR3 : Hid (Row W0 b3 32 #[.int .i64 first, .slice B n d]) := by
    rw [← hW0, ← hb3, ← hb2]
    have h := Row.new (w.alloc (.cells #[.int .i64 first, .slice A n c] 32)) 32 #[.int .i64 first, .slice B n d]
    rw [World.size_alloc] at h
    exact h
  have HG := Lib.hid G0
  have Ha := Lib.hid ha
  have Hb := Lib.hid hb
  have Hp := Lib.hid hp
  have Hn := Lib.hid hn
  have y0 := HR2.out.at_ (i := 0) rfl
  have y1 := HR2.out.at_ (i := 1) rfl
  have y2 := HR3.out.at_ (i := 0) rfl
  have y3 := HR3.out.at_ (i := 1) rfl
  clear G0 ha hb hp hn
  go_enter Tryd.func12, Tryd.ntmps12
  go_upto_region 1 with fail
  clear hW0 hb2 hb3
  go_wp2_with fail
  go_loopw [5] (fun i wr => ∃ k : Nat, k ≤ n ∧ i = .int .i64 k ∧ W0.grownBy wr none) (fun i _ => n - (intOf i).toNat)
  case atStart => exact ⟨0, Nat.zero_le _, rfl, gb_refl _ _⟩
  case round =>
    obtain ⟨k, hk, rfl, hg⟩ := hrel
    have hr2 := HR2.out.kept hg (by simp)
    have hr3 := HR3.out.kept hg (by simp)
    have x0 := hr2.at_ (i := 0) rfl
    have x1 := hr2.at_ (i := 1) rfl
    by_cases hlt : k < n
    · have d1 : decide (k < n) = true := decide_eq_true hlt
      have d2 : decide ((k : Int) < (n : Int)) = true := decide_eq_true (by omega)
      have HBk : Hid ((k : Int) < (n : Int)) := by show _ < _; omega
      have t8 : IntKind.i64.wrap ((k : Int) + 1) = ((k + 1 : Nat) : Int) := by rw [IntKind.wrap_i64]; have := Hn.out; omega
      obtain ⟨s, hs⟩ : ∃ s, ls[k]? = some s := ⟨_, List.getElem?_eq_getElem (by have := Ha.out.1; omega)⟩
      obtain ⟨g, o, rfl, _, _⟩ := Ha.out.2 (by omega)
      obtain ⟨g', o', rfl, _, _⟩ := Hb.out.2 (by omega)
      obtain ⟨A1, n1, c1, B1, m1, d1', hc1, hd1, hn1, hm1, hget⟩ := Ha.out.get hs
      obtain ⟨A2, n2, c2, B2, m2, d2', hc2, hd2, hn2, hm2, hget2⟩ := Hb.out.get hs
      have hsL := Hp.out s (List.mem_of_getElem? hs)
      have HL : Hid (n1 ≤ 100000 ∧ m1 ≤ 100000 ∧ n2 ≤ 100000 ∧ m2 ≤ 100000) := by have := hsL.1; have := hsL.2; exact ⟨by omega, by omega, by omega, by omega⟩
      have hgg := gb_none HG.out hg
      have HX : Hid (∀ W, wr.grownBy W none → W.cell? ⟨g, o + k * 2, none⟩ = some (.slice A1 n1 c1) ∧ W.cell? ⟨g, o + k * 2 + 1, none⟩ = some (.slice B1 m1 d1') ∧ SL W A1 n1 B1 m1 s) := fun W hW => hget W (gb_none hgg hW)
      have HY : Hid (∀ W, wr.grownBy W none → W.cell? ⟨g', o' + k * 2, none⟩ = some (.slice A2 n2 c2) ∧ W.cell? ⟨g', o' + k * 2 + 1, none⟩ = some (.slice B2 m2 d2') ∧ SL W A2 n2 B2 m2 s) := fun W hW => hget2 W (gb_none hgg hW)
      have HA9 := Lib.hid hr2
      have HB9 := Lib.hid hr3
      have Hg := Lib.hid hg
      have Hlt := Lib.hid hlt
      clear hs hc1 hd1 hn1 hm1 hget hc2 hd2 hn2 hm2 hget2 hsL hgg hr2 hr3 hg hlt hk
      go_upto_region 6 with fail
      clear d1 d2 t8
      apply wp_region_told (le := fun a b => a.grownBy b none) [isV _, isV _, isV _, isV _, isV _, isV _, isV _, isV _, isV _, isV _, isV _, isV _]
      case hn => rfl
      case hm => kernel_rfl
      case hB => kernel_rfl
      case ht => exact fun _ _ _ h k => gb_none h k
      case hw => exact gb_drew (gb_refl _ _)
      -- 0: ref.go:377 fieldAddr
      apply told_is
      · intro W f hW hE h0 K hK
        have e2 := h0 2 (by kernel_rfl)
        conv at e2 => rhs; whnf
        clear hE h0
        refine yes_of (want_free rfl) ?_
        go_simp; exact hK _ _ (gb_refl _ _) rfl
      -- 1: ref.go:377 load
      apply told_is
      · intro W f hW hE h0 K hK
        have e27 : f 27 = _ := hE 0 27 _ rfl (by kernel_rfl)
        clear hE h0
        refine yes_of (want_free rfl) ?_
        have z0 := (HA9.out.kept hW (by simp)).at_ (i := 0) rfl
        have z1 := (HA9.out.kept hW (by simp)).at_ (i := 1) rfl
        go_simp; exact hK _ _ (gb_refl _ _) rfl
      -- 2: ref.go:377 move
      apply told_is
      · intro W f hW hE h0 K hK
        have e5 := h0 5 (by kernel_rfl)
        conv at e5 => rhs; whnf
        clear hE h0
        refine yes_of (want_free rfl) ?_
        go_simp; exact hK _ _ (gb_refl _ _) rfl
      -- 3: ref.go:377 indexAddr
      apply told_is
      · intro W f hW hE h0 K hK
        have e28 : f 28 = _ := hE 1 28 _ rfl (by kernel_rfl)
        have e29 : f 29 = _ := hE 0 29 _ rfl (by kernel_rfl)
        clear hE h0
        refine yes_of (want_free rfl) ?_
        have b0 := HBk.out
        go_simp; exact hK _ _ (gb_refl _ _) rfl
      -- 4: ref.go:377 load
      apply told_is
      · intro W f hW hE h0 K hK
        have e30 : f 30 = _ := hE 0 30 _ rfl (by kernel_rfl)
        clear hE h0
        refine yes_of (want_free rfl) ?_
        obtain ⟨y0, y1, _⟩ := HX.out W hW
        go_simp; exact hK _ _ (gb_refl _ _) rfl
      -- 5: ref.go:377 fieldAddr
      apply told_is
      · intro W f hW hE h0 K hK
        have e3 := h0 3 (by kernel_rfl)
        conv at e3 => rhs; whnf
        clear hE h0
        refine yes_of (want_free rfl) ?_
        go_simp; exact hK _ _ (gb_refl _ _) rfl
      -- 6: ref.go:377 load
      apply told_is
      · intro W f hW hE h0 K hK
        have e32 : f 32 = _ := hE 0 32 _ rfl (by kernel_rfl)
        clear hE h0
        refine yes_of (want_free rfl) ?_
        have z0 := (HB9.out.kept hW (by simp)).at_ (i := 0) rfl
        have z1 := (HB9.out.kept hW (by simp)).at_ (i := 1) rfl
        go_simp; exact hK _ _ (gb_refl _ _) rfl
      -- 7: ref.go:377 move
      apply told_is
      · intro W f hW hE h0 K hK
        have e5 := h0 5 (by kernel_rfl)
        conv at e5 => rhs; whnf
        clear hE h0
        refine yes_of (want_free rfl) ?_
        go_simp; exact hK _ _ (gb_refl _ _) rfl
      -- 8: ref.go:377 indexAddr
      apply told_is
      · intro W f hW hE h0 K hK
        have e33 : f 33 = _ := hE 1 33 _ rfl (by kernel_rfl)
        have e34 : f 34 = _ := hE 0 34 _ rfl (by kernel_rfl)
        clear hE h0
        refine yes_of (want_free rfl) ?_
        have b0 := HBk.out
        go_simp; exact hK _ _ (gb_refl _ _) rfl
      -- 9: ref.go:377 load
      apply told_is
      · intro W f hW hE h0 K hK
        have e35 : f 35 = _ := hE 0 35 _ rfl (by kernel_rfl)
        clear hE h0
        refine yes_of (want_free rfl) ?_
        obtain ⟨y0, y1, _⟩ := HY.out W hW
        go_simp; exact hK _ _ (gb_refl _ _) rfl
      -- 10: ref.go:377 call
      apply told_is
      · intro W f hW hE h0 K hK
        have e31 : f 31 = _ := hE 5 31 _ rfl (by kernel_rfl)
        have e36 : f 36 = _ := hE 0 36 _ rfl (by kernel_rfl)
        clear hE h0
        refine yes_of (want_free rfl) ?_
        go_simp
        refine (refSameSt_any A1 B1 A2 B2 n1 c1 m1 d1' n2 c2 m2 d2' s s W (HX.out W hW).2.2 (HY.out W hW).2.2 HL.out.1 HL.out.2.1 HL.out.2.2.1 HL.out.2.2.2).mono ?_
        intro e w1' hh; obtain ⟨he, g'⟩ := hh.yes rfl; subst he
        exact ⟨_, rfl, hK _ _ g' rfl⟩
      -- 11: ref.go:377 unOp
      apply told_is
      · intro W f hW hE h0 K hK
        have e37 : f 37 = _ := hE 0 37 _ rfl (by kernel_rfl)
        clear hE h0
        refine yes_of (want_free rfl) ?_
        go_simp; exact hK _ _ (gb_refl _ _) rfl
      intro W f hW hA
      simp only [lexIn, Act.put, List.setIfInBounds_toArray, List.set_cons_zero, List.set_cons_succ]
      have e38 : f 38 = _ := hA 0 (some 38) _ rfl
      rw [e38]
      clear hA
      have Hg2 := Lib.hid (gb_none Hg.out hW)
      have t8 : IntKind.i64.wrap ((k : Int) + 1) = ((k + 1 : Nat) : Int) := by rw [IntKind.wrap_i64]; have := Hn.out; have := Hlt.out; omega
      clear hW
      go_wp2_with fail
      go_roundw
      case rel => exact ⟨k + 1, by have := Hlt.out; omega, rfl, Hg2.out⟩
      case measure => simp [intOf]; have := Hlt.out; omega
    · have hkn : k = n := by omega
      subst hkn
      have d1 : decide (k < k) = false := by simp
      have d2 : decide ((k : Int) < (k : Int)) = false := by simp
      have HF := Lib.hid (gb_none HG.out hg)
      clear hr2 hr3 hg hlt hk
      go_wp2_with fail
      go_ret
      exact ⟨rfl, HF.out⟩

theorem wk12 : (makeK [0, 1] 1).facts.length = 1 := by decide +kernel
set_option maxHeartbeats 8000000 in
set_option maxRecDepth 100000 in
theorem awake12_any (a b : Addr) (w : World) (hE : Ers w a b) : Calls Tryd.prog 11 #[] w fun e w' => e = .returned (.bool true) ∧ w.grownBy w' none := by
  obtain ⟨s, hs⟩ : ∃ s, makeK [0, 1] 1 = s := ⟨_, rfl⟩
  have hsh := (makeK_low [0, 1] 1).short (makeK_may [0, 1] 1)
  rw [hs] at hsh
  have HLen : Hid (s.seen.length ≤ 1000000 ∧ s.facts.length ≤ 1000000) := ⟨by omega, by omega⟩
  have HMk : Hid (∀ W : World, Calls Tryd.prog 26 #[.slice (some ⟨W.heap.size, 0, none⟩) 2 2] (W.alloc (.cells #[.int .u8 0, .int .u8 1] 5)) (States s (W.alloc (.cells #[.int .u8 0, .int .u8 1] 5)))) := fun W => by
    have h := make_any (some ⟨W.heap.size, 0, none⟩) 2 2 [0, 1] _ (nl_two W 0 1 5 (by decide) (by decide))
    rw [show min (2 / 2) 40 = 1 from rfl, hs] at h
    exact h
  have HSi : Hid (Calls Tryd.prog 7 #[.agg #[.int .i64 5, .slice none 0 0], .int .i64 5, .int .i64 3] w (SinceIs none_ w)) := since_some 5 5 3 none 0 0 0 [] a b w (BL.none w) ⟨fun s hs => (by cases hs), fun i j => by rw [List.drop_nil, List.take_nil]; exact ⟨Nat.zero_le _, Nat.zero_le _⟩⟩ hE (by decide) (by decide) (by decide) (Nat.le_refl _) (by decide) (by decide)
  have HAdd : Hid (∀ (A B : Option Addr) (n c m d : Nat) (W : World), SL W A n B m s → Calls Tryd.prog 6 #[.agg #[.int .i64 5, .slice none 0 0], .agg #[.slice A n c, .slice B m d]] W (BufIs 5 ([] ++ [s]) W)) := fun A B n c m d W h => add_any 5 none 0 0 [] A B n c m d s W (BL.none W).al (fun s hs => (by cases hs)) (by decide) h ⟨by have := h.1.1; have := HLen.out; omega, by have := h.2.1; have := HLen.out; omega⟩
  clear hs hsh hE
  go_enter Tryd.func11, Tryd.ntmps11
  go_upto_region 2 with (go_at_call 7; refine HSi.out.mono ?_; rintro e w1 ⟨A1, n1, c1, B1, m1, d1, rfl, hs1, _, _, g1⟩)
  obtain rfl : n1 = 0 := hs1.1.1.symm
  obtain ⟨b1, hb1⟩ : ∃ b1, w1.heap.size = b1 := ⟨_, rfl⟩
  rw [hb1]
  refine Td.named (fun W => w.grownBy W none ∧ Row W b1 28 #[.slice A1 0 c1, .slice B1 m1 d1]) ⟨gb_alloc g1 _, by rw [← hb1]; exact Row.new _ _ _⟩ ?_
  rintro W1 ⟨h1, h2⟩
  have HG1 := Lib.hid h1
  have HR1 := Lib.hid h2
  clear h1 h2 g1 hs1 hb1
  go_upto_region 3 with (first | (go_at_call 26; refine (HMk.out W1).mono ?_; rintro e w2 ⟨A2, n2, c2, B2, m2, d2, rfl, hs2, _, _, g2⟩; have Hs2 := Lib.hid hs2; have Hg2 := Lib.hid (gb_none (gb_alloc (gb_refl W1 none) _) g2); clear hs2 g2) | (go_at_call 6; refine (HAdd.out A2 B2 n2 c2 m2 d2 w2 Hs2.out).mono ?_; rintro e w3 ⟨A3, n3, c3, rfl, hl3, g3⟩; have Hl3 := Lib.hid hl3; have Hg3 := Lib.hid (gb_none Hg2.out g3); clear hl3 g3))
  obtain rfl : n3 = 1 := Hl3.out.told.2
  obtain ⟨b3, hb3⟩ : ∃ b3, w3.heap.size = b3 := ⟨_, rfl⟩
  rw [hb3]
  refine Td.named (fun W => W1.grownBy W none ∧ Row W b3 32 #[.int .i64 5, .slice A3 1 c3]) ⟨gb_alloc Hg3.out _, by rw [← hb3]; exact Row.new _ _ _⟩ ?_
  rintro W3 ⟨h1, h2⟩
  have y0 := (HR1.out.kept h1 (by simp)).at_ (i := 0) rfl
  have y1 := (HR1.out.kept h1 (by simp)).at_ (i := 1) rfl
  have x0 := h2.at_ (i := 0) rfl
  have x1 := h2.at_ (i := 1) rfl
  have HG3 := Lib.hid (gb_none HG1.out h1)
  clear h1 h2 hb3
  go_wp2_with fail
  go_ret
  exact ⟨rfl, HG3.out⟩
end Go.Proofs.YtbdpckphlagijaaDoor.Bf
