/- What the laws of stage 15 share. Written by gen_mblaw.py. -/
import Derived.Test.YtdlafgkiddhejaaGreatDoorMbChk
import Derived.Test.YtdlafgkiddhejaaGreatDoorMbGet
import Derived.Test.YtdlafgkiddhejaaGreatDoorMbSame
import Derived.Test.YtdlafgkiddhejaaGreatDoorMbRefC
set_option linter.unusedVariables false
namespace Go.Proofs.YtdlafgkiddhejaaGreatDoor.Mb
open Go Go.RowKit Go.Proofs.YtdlafgkiddhejaaGreatDoor.Mm Go.Proofs.YtdlafgkiddhejaaGreatDoor.Td Go.Proofs.YtdlafgkiddhejaaGreatDoor.Vw Go.Proofs.YtdlafgkiddhejaaGreatDoor.Dt

open Go.Proofs.YtdlafgkiddhejaaGreatDoor.Me
attribute [local go_sem] Td.upon_value Td.upon_skip Td.upon_enter Td.upon_row Td.look_tmp Td.look_const Td.look_func Td.look_global
/-- All that the laws lean on. -/
def Rdy (w : World) : Prop := Hh.Tabs w ∧ MErrs w ∧ ErrT w
theorem Rdy.keep {w w' : World} (h : Rdy w) (g : w.grownBy w' none) : Rdy w' := ⟨h.1.keep g (by simp), h.2.1.keep g, h.2.2.keep g (by simp)⟩
theorem isRec_rec {r : Rc} (h : MayR r) : IsRec (recB r).data.toList r := ⟨h, by rw [recB_yes h]⟩
theorem recB_len (r : Rc) : (recB r).data.toList.length ≤ 2000 := by
  have h := recB_size (r := r)
  have e : (recB r).data.toList.length = (recB r).size := by rw [Array.length_toList]; rfl
  omega
theorem get_put (r : Rc) (hm : MayR r) (w : World) (hT : ErrT w) : Calls Tryz.prog 13 #[.string (recB r)] w fun e w' => ∃ A c, e = .returned (.tuple #[.agg #[.int .i64 r.seq, .string r.prev, .int .i64 r.kind, .int .i64 r.dev, .slice A r.wraps.length c, .string r.tag], .bool true]) ∧ WL w' A r.wraps.length r.wraps ∧ r.wraps.length ≤ c ∧ w.grownBy w' none := by
  have hl := recB_len r
  refine (get_any (recB r) w (by omega) hT).mono fun e w' hh => ?_
  obtain ⟨hres, hg⟩ := hh
  rcases hres with ⟨t, A, c, hi, rfl, hw, hc⟩ | ⟨hn, _⟩
  · obtain rfl := rec_one (isRec_rec hm) hi
    exact ⟨A, c, rfl, hw.wl, hc, hg⟩
  · exact absurd (isRec_rec hm) (hn r)
/-- Records without wraps in a row of their own. -/
theorem log_bare {W : World} {g : Nat} {T : TypeId} {l : List Rc} (hr : Row W g T (bv l).toArray) (h0 : ∀ r ∈ l, r.wraps = []) : LogL W (some ⟨g, 0, none⟩) l.length l := by
  refine ⟨rfl, fun _ => ⟨g, 0, rfl, hr.lt, fun i x hx => ?_⟩⟩
  have hat : ∀ j u, (bv l)[j]? = some u → W.cell? ⟨g, 0 + j, none⟩ = some u := fun j u hu => by
    rw [Nat.zero_add]
    exact hr.at_ (by rw [List.getElem?_toArray]; exact hu)
  have r := bv_at l i x hx
  have hw := h0 x (List.mem_of_getElem? hx)
  refine ⟨none, 0, hat _ _ (r 0 (by decide)), hat _ _ (r 1 (by decide)), hat _ _ (r 2 (by decide)), hat _ _ (r 3 (by decide)), ?_, hat _ _ (r 5 (by decide)), ?_, ?_⟩
  · rw [hw]; exact hat _ _ (r 4 (by decide))
  · rw [hw]; exact WL.none _ _
  · rw [hw]; exact Nat.le_refl _
theorem bare_len {l : List Rc} (h0 : ∀ r ∈ l, r.wraps = []) : ∀ r ∈ l, r.wraps.length ≤ 1099511627776 := fun r hr => by rw [h0 r hr]; exact Nat.zero_le _
/-- Check of records without wraps in a new row. -/
theorem check_bare (l : List Rc) (g : Nat) (n : Nat) (w : World) (hR : Rdy w) (hr : Row w g 26 (bv l).toArray) (h0 : ∀ r ∈ l, r.wraps = []) (hn : l.length = n) : Calls Tryz.prog 10 #[.slice (some ⟨g, 0, none⟩) n n] w (BoolIs (ChainR l) w) := by
  subst hn
  exact check_log _ _ _ l w (log_bare hr h0) (bare_len h0) hR.1 hR.2.1
theorem chain_nil : ChainR [] := ⟨Nat.zero_le _, good_nil⟩
theorem chain_first : ChainR [firstR] := ⟨by decide, first_good⟩
theorem first_may : MayR firstR := first_step.1
theorem one_bare {r : Rc} (h : r.wraps = []) : ∀ x ∈ [r], x.wraps = [] := fun x hx => by rw [List.mem_singleton.1 hx]; exact h
theorem two_bare {r t : Rc} (h : r.wraps = []) (k : t.wraps = []) : ∀ x ∈ [r, t], x.wraps = [] := fun x hx => by
  rcases List.mem_cons.1 hx with rfl | hx
  · exact h
  · rw [List.mem_singleton.1 hx]; exact k
set_option maxHeartbeats 16000000 in
set_option maxRecDepth 100000 in
theorem great_any (r : Rc) (A : Option Addr) (c : Nat) (w : World) (hw : WL w A r.wraps.length r.wraps) (hn : r.wraps.length ≤ c) :
    Calls Tryz.prog 8 #[.agg #[.int .i64 r.seq, .string r.prev, .int .i64 r.kind, .int .i64 r.dev, .slice A r.wraps.length c, .string r.tag]] w fun e w' => (∃ q, e = .returned (.bool q) ∧ (q = false → r.wraps.length ≤ 12)) ∧ w.grownBy w' none := by
  obtain ⟨b0, hb0⟩ : ∃ b0, w.heap.size = b0 := ⟨_, rfl⟩
  obtain ⟨W0, hW0⟩ : ∃ W0, w.alloc (.cells #[.int .i64 r.seq, .string r.prev, .int .i64 r.kind, .int .i64 r.dev, .slice A r.wraps.length c, .string r.tag] 26) = W0 := ⟨_, rfl⟩
  obtain ⟨G0, HX⟩ := rec_box hb0 hW0 hw
  have HG := Lib.hid G0
  have Hn := Lib.hid hn
  obtain ⟨n, hnn⟩ : ∃ n, r.wraps.length = n := ⟨_, rfl⟩
  have Hnn := Lib.hid hnn
  clear G0 hw hn hnn
  go_enter Tryz.func8, Tryz.ntmps8
  go_upto_region 1 with fail
  clear hW0 hb0
  go_wp2_with fail
  go_loopw [3] (fun i wr => ∃ k : Nat, k ≤ n ∧ k ≤ 20 ∧ i = .int .i64 k ∧ W0.grownBy wr none) (fun i _ => n - (intOf i).toNat)
  case atStart => exact ⟨0, Nat.zero_le _, by decide, rfl, gb_refl _ _⟩
  case round =>
    obtain ⟨k, hk, hk2, rfl, hg⟩ := hrel
    obtain ⟨⟨y0, y1, y2, y3, y4, y5⟩, hWL⟩ := HX.out wr hg
    rw [Hnn.out] at y4 hWL
    by_cases hlt : k < n
    · have d1 : decide (k < n) = true := decide_eq_true hlt
      have d2 : decide ((k : Int) < (n : Int)) = true := decide_eq_true (by omega)
      by_cases h20 : k < 20
      · have d3 : decide (k < 20) = true := decide_eq_true h20
        have d4 : decide ((k : Int) < 20) = true := decide_eq_true (by omega)
        have bk : (k : Int) < (n : Int) := by omega
        have t1 : IntKind.i64.wrap ((k : Int) + 1) = ((k + 1 : Nat) : Int) := by rw [IntKind.wrap_i64]; omega
        obtain ⟨g, o, rfl, hgl, _⟩ := hWL.2 (by omega)
        obtain ⟨x, hx⟩ : ∃ x, r.wraps[k]? = some x := ⟨_, List.getElem?_eq_getElem (by rw [hWL.1]; exact hlt)⟩
        obtain ⟨_, h0, h1⟩ := wl_of hWL hx
        have Hlt := Lib.hid hlt
        have H20 := Lib.hid h20
        clear hWL hx hlt hk hk2 h20 hgl
        by_cases hs : x.box.size ≤ 400
        · have s1 : decide (400 < x.box.size) = false := decide_eq_false (by omega)
          have s2 : decide ((400 : Int) < (x.box.size : Int)) = false := decide_eq_false (by omega)
          clear hs
          go_wp2_with fail
          go_roundw
          case rel => exact ⟨k + 1, by have := Hlt.out; omega, by have := H20.out; omega, rfl, hg⟩
          case measure => simp [intOf]; have := Hlt.out; omega
        · have s1 : decide (400 < x.box.size) = true := decide_eq_true (by omega)
          have s2 : decide ((400 : Int) < (x.box.size : Int)) = true := decide_eq_true (by omega)
          clear hs
          go_wp2_with fail
          go_ret
          exact ⟨⟨true, rfl, fun h => (by cases h)⟩, gb_none HG.out hg⟩
      · have d3 : decide (k < 20) = false := decide_eq_false h20
        have d4 : decide ((k : Int) < 20) = false := decide_eq_false (by omega)
        clear hWL hlt hk hk2 h20
        by_cases g1 : n ≤ 12
        · have s1a : decide (12 < n) = false := decide_eq_false (by omega)
          have s1b : decide ((12 : Int) < (n : Int)) = false := decide_eq_false (by omega)
          by_cases g2 : r.prev.size ≤ 100
          · have s2a : decide (100 < r.prev.size) = false := decide_eq_false (by omega)
            have s2b : decide ((100 : Int) < (r.prev.size : Int)) = false := decide_eq_false (by omega)
            by_cases g3 : r.tag.size ≤ 100
            · have s3a : decide (100 < r.tag.size) = false := decide_eq_false (by omega)
              have s3b : decide ((100 : Int) < (r.tag.size : Int)) = false := decide_eq_false (by omega)
              have HE : Hid (r.wraps.length ≤ 12) := by show _ ≤ _; rw [Hnn.out]; exact g1
              clear g1 g2 g3
              go_wp2_with fail
              go_ret
              exact ⟨⟨false, rfl, fun _ => HE.out⟩, gb_none HG.out hg⟩
            · have s3a : decide (100 < r.tag.size) = true := decide_eq_true (by omega)
              have s3b : decide ((100 : Int) < (r.tag.size : Int)) = true := decide_eq_true (by omega)
              clear g1 g2 g3
              go_wp2_with fail
              go_ret
              exact ⟨⟨true, rfl, fun h => (by cases h)⟩, gb_none HG.out hg⟩
          · have s2a : decide (100 < r.prev.size) = true := decide_eq_true (by omega)
            have s2b : decide ((100 : Int) < (r.prev.size : Int)) = true := decide_eq_true (by omega)
            clear g1 g2
            go_wp2_with fail
            go_ret
            exact ⟨⟨true, rfl, fun h => (by cases h)⟩, gb_none HG.out hg⟩
        · have s1a : decide (12 < n) = true := decide_eq_true (by omega)
          have s1b : decide ((12 : Int) < (n : Int)) = true := decide_eq_true (by omega)
          clear g1
          go_wp2_with fail
          go_ret
          exact ⟨⟨true, rfl, fun h => (by cases h)⟩, gb_none HG.out hg⟩
    · have d1 : decide (k < n) = false := decide_eq_false hlt
      have d2 : decide ((k : Int) < (n : Int)) = false := decide_eq_false (by omega)
      clear hWL hlt hk hk2
      by_cases g1 : n ≤ 12
      · have s1a : decide (12 < n) = false := decide_eq_false (by omega)
        have s1b : decide ((12 : Int) < (n : Int)) = false := decide_eq_false (by omega)
        by_cases g2 : r.prev.size ≤ 100
        · have s2a : decide (100 < r.prev.size) = false := decide_eq_false (by omega)
          have s2b : decide ((100 : Int) < (r.prev.size : Int)) = false := decide_eq_false (by omega)
          by_cases g3 : r.tag.size ≤ 100
          · have s3a : decide (100 < r.tag.size) = false := decide_eq_false (by omega)
            have s3b : decide ((100 : Int) < (r.tag.size : Int)) = false := decide_eq_false (by omega)
            have HE : Hid (r.wraps.length ≤ 12) := by show _ ≤ _; rw [Hnn.out]; exact g1
            clear g1 g2 g3
            go_wp2_with fail
            go_ret
            exact ⟨⟨false, rfl, fun _ => HE.out⟩, gb_none HG.out hg⟩
          · have s3a : decide (100 < r.tag.size) = true := decide_eq_true (by omega)
            have s3b : decide ((100 : Int) < (r.tag.size : Int)) = true := decide_eq_true (by omega)
            clear g1 g2 g3
            go_wp2_with fail
            go_ret
            exact ⟨⟨true, rfl, fun h => (by cases h)⟩, gb_none HG.out hg⟩
        · have s2a : decide (100 < r.prev.size) = true := decide_eq_true (by omega)
          have s2b : decide ((100 : Int) < (r.prev.size : Int)) = true := decide_eq_true (by omega)
          clear g1 g2
          go_wp2_with fail
          go_ret
          exact ⟨⟨true, rfl, fun h => (by cases h)⟩, gb_none HG.out hg⟩
      · have s1a : decide (12 < n) = true := decide_eq_true (by omega)
        have s1b : decide ((12 : Int) < (n : Int)) = true := decide_eq_true (by omega)
        clear g1
        go_wp2_with fail
        go_ret
        exact ⟨⟨true, rfl, fun h => (by cases h)⟩, gb_none HG.out hg⟩
set_option maxHeartbeats 16000000 in
set_option maxRecDepth 100000 in
theorem awake15_any (w : World) (hR : Rdy w) : Calls Tryz.prog 9 #[] w fun e w' => e = .returned (.bool true) ∧ w.grownBy w' none := by
  have HR := Lib.hid hR
  obtain ⟨P, hP⟩ : ∃ P, recB firstR = P := ⟨_, rfl⟩
  have HP0 : Hid (∀ W, Calls Tryz.prog 14 #[.agg #[.int .i64 1, .string ⟨#[]⟩, .int .i64 1, .int .i64 0, .slice none 0 0, .string ⟨#[]⟩]] W fun e w' => e = .returned (.string P) ∧ W.grownBy w' none) := fun W => by rw [← hP]; exact put_any firstR none 0 W (WL.none _ _) (by decide)
  have HG0 : Hid (∀ W, ErrT W → Calls Tryz.prog 13 #[.string P] W fun e w' => ∃ A2 c2, e = .returned (.tuple #[.agg #[.int .i64 1, .string ⟨#[]⟩, .int .i64 1, .int .i64 0, .slice A2 0 c2, .string ⟨#[]⟩], .bool true]) ∧ W.grownBy w' none) := fun W hW => by
    rw [← hP]
    refine (get_put firstR first_may W hW).mono ?_
    rintro e w' ⟨A2, c2, rfl, _, _, hg⟩
    exact ⟨A2, c2, rfl, hg⟩
  have HC0 : Hid (∀ W, Rdy W → Calls Tryz.prog 10 #[.slice none 0 0] W fun e w' => e = .returned (.bool true) ∧ W.grownBy w' none) := fun W hW => (check_log none 0 0 [] W (LogL.none _ _) (fun r hr => by cases hr) hW.1 hW.2.1).mono fun _ _ h => h.yes chain_nil
  have HC1 : Hid (∀ W g, Rdy W → Row W g 26 #[.int .i64 1, .string ⟨#[]⟩, .int .i64 1, .int .i64 0, .slice none 0 0, .string ⟨#[]⟩] → Calls Tryz.prog 10 #[.slice (some ⟨g, 0, none⟩) 1 1] W fun e w' => e = .returned (.bool true) ∧ W.grownBy w' none) := fun W g hW hr => (check_bare [firstR] g 1 W hW hr (one_bare rfl) rfl).mono fun _ _ h => h.yes chain_first
  have HS0 : Hid (∀ (A2 : Option Addr) (c2 : Nat) W, Calls Tryz.prog 21 #[.agg #[.int .i64 1, .string ⟨#[]⟩, .int .i64 1, .int .i64 0, .slice A2 0 c2, .string ⟨#[]⟩], .agg #[.int .i64 1, .string ⟨#[]⟩, .int .i64 1, .int .i64 0, .slice none 0 0, .string ⟨#[]⟩]] W fun e w' => e = .returned (.bool true) ∧ W.grownBy w' none) := fun A2 c2 W => (same_any firstR firstR A2 none c2 0 W (WL.none _ _) (WL.none _ _) (by decide)).mono fun _ _ h => h.yes rfl
  obtain ⟨Q, hQ⟩ : ∃ Q, hashB firstR = Q := ⟨_, rfl⟩
  have HQ : Hid ((Q.size : Int) = 32) := by show _ = _; rw [← hQ, hash_size]; rfl
  have HH0 : Hid (∀ W, Rdy W → Calls Tryz.prog 17 #[.agg #[.int .i64 1, .string ⟨#[]⟩, .int .i64 1, .int .i64 0, .slice none 0 0, .string ⟨#[]⟩]] W fun e w' => e = .returned (.string Q) ∧ W.grownBy w' none) := fun W hW => by rw [← hQ]; exact hash_any firstR none 0 W (WL.none _ _) (by decide) hW.1
  clear hR hP hQ
  go_enter Tryz.func9, Tryz.ntmps9
  go_upto_region 2 with fail
  obtain ⟨b1, hb1⟩ : ∃ b1, w.heap.size = b1 := ⟨_, rfl⟩
  obtain ⟨W1, hW1⟩ : ∃ W1, w.alloc (.cells #[.int .i64 1, .string ⟨#[]⟩, .int .i64 1, .int .i64 0, .slice none 0 0, .string ⟨#[]⟩] 26) = W1 := ⟨_, rfl⟩
  have hr1 : Row W1 b1 26 #[.int .i64 1, .string ⟨#[]⟩, .int .i64 1, .int .i64 0, .slice none 0 0, .string ⟨#[]⟩] := by rw [← hW1, ← hb1]; exact Row.new _ _ _
  have Hg1 : Hid (w.grownBy W1 none) := by rw [← hW1]; exact gb_alloc (gb_refl _ _) _
  have HB1 : Hid (∀ W, W1.grownBy W none → W.cell? ⟨b1, 0, none⟩ = some (.int .i64 1) ∧ W.cell? ⟨b1, 1, none⟩ = some (.string ⟨#[]⟩) ∧ W.cell? ⟨b1, 2, none⟩ = some (.int .i64 1) ∧ W.cell? ⟨b1, 3, none⟩ = some (.int .i64 0) ∧ W.cell? ⟨b1, 4, none⟩ = some (.slice none 0 0) ∧ W.cell? ⟨b1, 5, none⟩ = some (.string ⟨#[]⟩)) := fun W hW => ⟨(hr1.kept hW (by simp)).at_ (i := 0) rfl, (hr1.kept hW (by simp)).at_ (i := 1) rfl, (hr1.kept hW (by simp)).at_ (i := 2) rfl, (hr1.kept hW (by simp)).at_ (i := 3) rfl, (hr1.kept hW (by simp)).at_ (i := 4) rfl, (hr1.kept hW (by simp)).at_ (i := 5) rfl⟩
  rw [hb1, hW1]
  clear hb1 hW1 hr1
  obtain ⟨z0, z1, z2, z3, z4, z5⟩ := HB1.out W1 (gb_refl _ _)
  go_wp2_with fail
  refine (HP0.out _).mono ?_
  rintro e w2 ⟨rfl, g2⟩
  have Hg2 := Lib.hid g2
  clear g2 z0 z1 z2 z3 z4 z5
  go_wp2_with fail
  refine (HG0.out w2 (HR.out.keep (gb_none Hg1.out Hg2.out)).2.2).mono ?_
  rintro e w3 ⟨A2, c2, rfl, g3⟩
  have Hg3 := Lib.hid (gb_none Hg2.out g3)
  clear g3
  go_upto_region 3 with fail
  obtain ⟨b4, hb4⟩ : ∃ b4, w3.heap.size = b4 := ⟨_, rfl⟩
  obtain ⟨W4, hW4⟩ : ∃ W4, w3.alloc (.cells #[.int .i64 1, .string ⟨#[]⟩, .int .i64 1, .int .i64 0, .slice A2 0 c2, .string ⟨#[]⟩] 26) = W4 := ⟨_, rfl⟩
  have hr4 : Row W4 b4 26 #[.int .i64 1, .string ⟨#[]⟩, .int .i64 1, .int .i64 0, .slice A2 0 c2, .string ⟨#[]⟩] := by rw [← hW4, ← hb4]; exact Row.new _ _ _
  have Hg4 : Hid (W1.grownBy W4 none) := by rw [← hW4]; exact gb_alloc Hg3.out _
  have HB4 : Hid (∀ W, W4.grownBy W none → W.cell? ⟨b4, 0, none⟩ = some (.int .i64 1) ∧ W.cell? ⟨b4, 1, none⟩ = some (.string ⟨#[]⟩) ∧ W.cell? ⟨b4, 2, none⟩ = some (.int .i64 1) ∧ W.cell? ⟨b4, 3, none⟩ = some (.int .i64 0) ∧ W.cell? ⟨b4, 4, none⟩ = some (.slice A2 0 c2) ∧ W.cell? ⟨b4, 5, none⟩ = some (.string ⟨#[]⟩)) := fun W hW => ⟨(hr4.kept hW (by simp)).at_ (i := 0) rfl, (hr4.kept hW (by simp)).at_ (i := 1) rfl, (hr4.kept hW (by simp)).at_ (i := 2) rfl, (hr4.kept hW (by simp)).at_ (i := 3) rfl, (hr4.kept hW (by simp)).at_ (i := 4) rfl, (hr4.kept hW (by simp)).at_ (i := 5) rfl⟩
  rw [hb4, hW4]
  clear hb4 hW4 hr4
  have HR4 : Hid (∀ W, W4.grownBy W none → Rdy W) := fun W hW => HR.out.keep (gb_none Hg1.out (gb_none Hg4.out hW))
  go_wp2_with fail
  refine (HC0.out W4 (HR4.out W4 (gb_refl _ _))).mono ?_
  rintro e w5 ⟨rfl, g5⟩
  have Hg5 := Lib.hid g5
  clear g5
  obtain ⟨z0, z1, z2, z3, z4, z5⟩ := HB1.out w5 (gb_none Hg4.out Hg5.out)
  go_wp2_with fail
  refine (HC1.out _ _ (HR4.out _ (gb_alloc Hg5.out _)) (Row.new _ _ _)).mono ?_
  rintro e w6 ⟨rfl, g6⟩
  have Hg6 := Lib.hid (gb_none (gb_alloc Hg5.out _) g6)
  clear g6 z0 z1 z2 z3 z4 z5
  obtain ⟨z0, z1, z2, z3, z4, z5⟩ := HB1.out w6 (gb_none Hg4.out Hg6.out)
  obtain ⟨x0, x1, x2, x3, x4, x5⟩ := HB4.out w6 Hg6.out
  go_wp2_with fail
  refine (HS0.out A2 c2 _).mono ?_
  rintro e w7 ⟨rfl, g7⟩
  have Hg7 := Lib.hid (gb_none Hg6.out g7)
  clear g7 z0 z1 z2 z3 z4 z5 x0 x1 x2 x3 x4 x5
  obtain ⟨z0, z1, z2, z3, z4, z5⟩ := HB1.out w7 (gb_none Hg4.out Hg7.out)
  go_wp2_with fail
  refine (HH0.out w7 (HR4.out w7 Hg7.out)).mono ?_
  rintro e w8 ⟨rfl, g8⟩
  have Hg8 := Lib.hid (gb_none Hg1.out (gb_none Hg4.out (gb_none Hg7.out g8)))
  have q1 := HQ.out
  clear g8
  go_wp2_with fail
  go_ret
  exact ⟨rfl, Hg8.out⟩
end Go.Proofs.YtdlafgkiddhejaaGreatDoor.Mb
