/- mix's contract. -/
import Derived.Test.YtblndpfgfakdeaaDtMixL
import Derived.Test.YtblndpfgfakdeaaDtMark
import Derived.Test.YtblndpfgfakdeaaDtUnion
import Derived.Test.YtblndpfgfakdeaaTold
import Derived.Deep.AppendLies
import Derived.Deep.RegionHeld3
import Derived.Laws.OwnMore
namespace Go.Proofs.Ytblndpfgfakdeaa.Dt
open Go Go.RowKit Go.Proofs.Ytblndpfgfakdeaa.Mm Go.Proofs.Ytblndpfgfakdeaa.Td

def numsV (L : List Int) : Td.Spec := fun W v => ∃ A c, v = .slice A L.length c ∧ IL W A L.length L ∧ L.length ≤ c
theorem numsV_stays {L : List Int} : Stays (fun a b => a.grownBy b none) (numsV L) := fun _ _ _ h ⟨A, c, e, hr, hl⟩ => ⟨A, c, e, hr.keep h, hl⟩
theorem places_bnd (dev : Int) (a b : List Rn) (ha : ∀ r ∈ a, Ok r) (hb : ∀ r ∈ b, Ok r) : ∀ x ∈ pts dev (pts dev [] a) b, 1 ≤ x ∧ x ≤ 4503599627370497 := fun x hx => by
  rw [pts_mem, pts_mem] at hx
  rcases hx with (hx | ⟨r, hr, _, h⟩) | ⟨r, hr, _, h⟩
  · cases hx
  · obtain ⟨_, _, k3, k4, k5⟩ := ha r hr; omega
  · obtain ⟨_, _, k3, k4, k5⟩ := hb r hr; omega
theorem ints3 (x y z : Int) : ∀ u ∈ [Value.int .i64 x, .int .i64 y, .int .i64 z], u.oneCell' = true := by
  intro u hu
  simp only [List.mem_cons, List.not_mem_nil, or_false] at hu
  obtain rfl | rfl | rfl := hu <;> rfl
theorem rv_set (l : List Rn) (r : Rn) (t : Int) : (rv (l ++ [r])).set (l.length * 3 + 2) (.int .i64 t) = rv (l ++ [⟨r.d, r.f, t⟩]) := by
  rw [rv_append, rv_append, List.set_append_right _ _ (by rw [rv_len]; omega), rv_len, show l.length * 3 + 2 - l.length * 3 = 2 by omega]; rfl
def meets (rs : List Rn) (x : Int) : Bool := match rs with | [] => false | r :: _ => r.t == x - 1
theorem step_no {dev x y : Int} {p : Int → Bool} {rs : List Rn} (h : p x = !true) : step dev p rs x y = rs := by unfold step; rw [h]; rfl
theorem step_yes {dev x y : Int} {p : Int → Bool} {r : Rn} {rs : List Rn} (h : p x = !false) (hm : r.t = x - 1) : step dev p (r :: rs) x y = ⟨r.d, r.f, y - 1⟩ :: rs := by unfold step; rw [h, Bool.not_false, if_pos rfl]; simp only []; rw [if_pos hm]
theorem step_new {dev x y : Int} {p : Int → Bool} {rs : List Rn} (h : p x = !false) (hm : meets rs x = false) : step dev p rs x y = ⟨dev, x, y - 1⟩ :: rs := by
  unfold step; rw [h, Bool.not_false, if_pos rfl]
  cases rs with
  | nil => rfl
  | cons r rs =>
    simp only []
    have : ¬ r.t = x - 1 := by have h : (r.t == x - 1) = false := hm; exact beq_eq_false_iff_ne.1 h
    rw [if_neg this]
attribute [local go_sem] Td.upon_value Td.upon_skip Td.upon_enter Td.upon_row Td.look_tmp Td.look_const Td.look_func Td.look_global
set_option maxHeartbeats 8000000 in
set_option maxRecDepth 100000 in
theorem mix_any (dev : Nat) (A B : Option Addr) (n c m d : Nat) (a b : List Rn) (alone : Bool) (w : World) (ha : RL w A n a) (hb : RL w B m b) (oa : ∀ r ∈ a, Ok r) (ob : ∀ r ∈ b, Ok r) (hn : n ≤ 100000) (hm : m ≤ 100000) :
    Calls Try.prog 59 #[.int .i64 (dev : Int), .slice A n c, .slice B m d, .bool alone] w (Runs (mixR (dev : Int) a b alone) w) := by
  have Ha := Lib.hid ha
  have Hb := Lib.hid hb
  have Oa := Lib.hid oa
  have Ob := Lib.hid ob
  obtain ⟨i0, hi0, hz0, hz1, hz2⟩ := info_parts run_inf
  have Hi0 := Lib.hid hi0
  have Hz0 := Lib.hid hz0
  have Hz1 := Lib.hid hz1
  have Hz2 := Lib.hid hz2
  clear hi0 hz0 hz1 hz2
  clear ha hb oa ob
  go_enter Try.func59, Try.ntmps59
  go_wp2_with fail
  go_loopw [10, 9] (fun i v wr => ∃ (k : Nat) (A1 : Option Addr) (c1 : Nat) (L : List Int), k ≤ n ∧ i = .int .i64 k ∧ Hid (L = pts (dev : Int) [] (a.take k)) ∧ v = .slice A1 L.length c1 ∧ IL wr A1 L.length L ∧ Hid (L.length = 0 → A1 = none ∧ c1 = 0) ∧ Hid (L.length ≤ c1) ∧ Hid (Rising L) ∧ L.length ≤ 0 + 2 * k ∧ w.grownBy wr none) (fun i _ _ => n - (intOf i).toNat)
  case atStart => exact ⟨0, none, 0, [], Nat.zero_le _, rfl, rfl, rfl, IL.none _, fun _ => ⟨rfl, rfl⟩, Nat.le_refl _, List.Pairwise.nil, Nat.zero_le _, gb_refl _ _⟩
  case round =>
    obtain ⟨k, A1, c1, L, hk, rfl, HL, rfl, hIL, H01, Hc1, HRi, hLk, hg⟩ := hrel
    by_cases hlt : k < n
    · have d1 : decide (k < n) = true := decide_eq_true hlt
      have d2 : decide ((k : Int) < (n : Int)) = true := decide_eq_true (by omega)
      have bk : (k : Int) < (n : Int) := by omega
      obtain ⟨g, o, rfl, hgl, hcc⟩ := (Ha.out.keep hg).2 (by omega)
      obtain ⟨x, hx⟩ : ∃ x, a[k]? = some x := ⟨_, List.getElem?_eq_getElem (by rw [Ha.out.1]; exact hlt)⟩
      obtain ⟨h0, h1, h2⟩ := hcc k x hx
      have HC1 : Hid (∀ W, wr.grownBy W none → W.cell? ⟨g, o + k * 3 + 1, none⟩ = some (.int .i64 x.f)) := fun W hW => (World.cell?_of_block (a := ⟨g, o + k * 3 + 1, none⟩) (hW.block g hgl (by simp))).trans h1
      have HC2 : Hid (∀ W, wr.grownBy W none → W.cell? ⟨g, o + k * 3 + 2, none⟩ = some (.int .i64 x.t)) := fun W hW => (World.cell?_of_block (a := ⟨g, o + k * 3 + 2, none⟩) (hW.block g hgl (by simp))).trans h2
      have hxo := Oa.out x (List.mem_of_getElem? hx)
      have hw : IntKind.i64.wrap (x.t + 1) = x.t + 1 := by obtain ⟨_, _, k3, k4, k5⟩ := hxo; rw [IntKind.wrap_i64]; omega
      have Hmore := Lib.hid (pts_more (dev : Int) [] hx)
      have HIL := Lib.hid hIL
      have Hlen : Hid ((mk L x.f).length ≤ 1000000) := by show _ ≤ _; have := mk_len_le L x.f; omega
      have hl2 : (mk (mk L x.f) (x.t + 1)).length ≤ L.length + 2 := by have h1 := mk_len_le (mk L x.f) (x.t + 1); have h2 := mk_len_le L x.f; omega
      clear hcc hx hxo h1 h2 hIL
      by_cases e1 : x.d = (dev : Int)
      · have f1 : (x.d == (dev : Int)) = true := by rw [e1]; simp
        have Hn : Hid (mk (mk L x.f) (x.t + 1) = pts (dev : Int) [] (a.take (k + 1))) := by show _ = _; rw [Hmore.out, if_pos e1, ← HL.out]
        clear e1
        go_upto_region 6 with fail
        clear h0 f1
        have hc1' := fun W hW => HC1.out W hW
        have hc2' := fun W hW => HC2.out W hW
        have hgd := fun y => (propext ⟨fun h => ⟨h.os, h.tape, h.output, h.size, h.block⟩, fun h => gb_drew h⟩ : wr.grownBy (World.drew y) none = wr.grownBy y none)
        have r0 := gb_refl wr none
        go_region_with (first
          | (go_at_call 74; with_reducible refine (mark_loop A1 L.length c1 L x.f _ (HIL.out.keep (by repeat first | exact gb_refl _ _ | apply gb_drew)) HRi.out (by omega) Hc1.out H01.out).mono ?_; rintro e y1 ⟨A2, c2, rfl, hil2, hle2, gy1⟩; have gz1 : wr.grownBy y1 none := gb_none (by repeat first | exact gb_refl _ _ | apply gb_drew) gy1)
          | (go_at_call 74; with_reducible refine (mark_loop A2 (mk L x.f).length c2 (mk L x.f) (x.t + 1) _ (hil2.keep (by repeat first | exact gb_refl _ _ | apply gb_drew)) (mk_rising _ HRi.out) Hlen.out hle2 (fun h => absurd h (by have := mk_pos L x.f; omega))).mono ?_; rintro e y2 ⟨A3, c3, rfl, hil3, hle3, gy2⟩))
        all_goals
          have g3 : w.grownBy y2 none := gb_none (by repeat first | exact gb_none hg gz1 | apply gb_drew) gy2
          have Hil3 := Lib.hid hil3
          clear hil3 hc1' hc2' hgd r0
          go_wp2_with fail
          go_roundw
          case rel => exact ⟨k + 1, A3, c3, mk (mk L x.f) (x.t + 1), by omega, by go_num, Hn, rfl, Hil3.out, (fun h => absurd h (by have := mk_pos (mk L x.f) (x.t + 1); omega)), hle3, mk_rising _ (mk_rising _ HRi.out), by omega, g3⟩
          case measure => simp [intOf]; omega
      · have f1 : (x.d == (dev : Int)) = false := by rw [beq_eq_false_iff_ne]; exact e1
        have Hn : Hid (L = pts (dev : Int) [] (a.take (k + 1))) := by show _ = _; rw [Hmore.out, if_neg e1, HL.out]
        clear e1
        go_wp2_with fail
        go_roundw
        case rel => exact ⟨k + 1, A1, c1, L, by omega, by go_num, Hn, rfl, HIL.out, H01, Hc1, HRi, by omega, hg⟩
        case measure => simp [intOf]; omega
    · have hkn : k = n := by omega
      subst hkn
      have d1 : decide (k < k) = false := by simp
      have d2 : decide ((k : Int) < (k : Int)) = false := by simp
      have HIL := Lib.hid hIL
      clear hIL
      go_wp2_with fail
      have HLa : Hid (L = pts (dev : Int) [] a) := by
        show _ = _
        have h := HL.out
        rwa [List.take_of_length_le (by rw [Ha.out.1]; exact Nat.le_refl _)] at h
      clear d1 d2 HL hlt hk
      obtain ⟨N1, hN1⟩ : ∃ N1, 2 * k = N1 := ⟨_, rfl⟩
      have hN2 : N1 ≤ 200000 := by omega
      have hN3 : L.length ≤ N1 := by omega
      clear hN1 hLk
      go_loopw [11, 9] (fun i v wr => ∃ (k : Nat) (A1 : Option Addr) (c1 : Nat) (L : List Int), k ≤ m ∧ i = .int .i64 k ∧ Hid (L = pts (dev : Int) (pts (dev : Int) [] a) (b.take k)) ∧ v = .slice A1 L.length c1 ∧ IL wr A1 L.length L ∧ Hid (L.length = 0 → A1 = none ∧ c1 = 0) ∧ Hid (L.length ≤ c1) ∧ Hid (Rising L) ∧ L.length ≤ N1 + 2 * k ∧ w.grownBy wr none) (fun i _ _ => m - (intOf i).toNat)
      case atStart => exact ⟨0, A1, c1, L, Nat.zero_le _, rfl, (by show _ = _; rw [HLa.out]; rfl), rfl, HIL.out, H01, Hc1, HRi, by omega, hg⟩
      case round =>
        clear hg HIL H01 Hc1 HRi
        obtain ⟨k, A1, c1, L, hk, rfl, HL, rfl, hIL, H01, Hc1, HRi, hLk, hg⟩ := hrel
        by_cases hlt : k < m
        · have d1 : decide (k < m) = true := decide_eq_true hlt
          have d2 : decide ((k : Int) < (m : Int)) = true := decide_eq_true (by omega)
          have bk : (k : Int) < (m : Int) := by omega
          obtain ⟨g, o, rfl, hgl, hcc⟩ := (Hb.out.keep hg).2 (by omega)
          obtain ⟨x, hx⟩ : ∃ x, b[k]? = some x := ⟨_, List.getElem?_eq_getElem (by rw [Hb.out.1]; exact hlt)⟩
          obtain ⟨h0, h1, h2⟩ := hcc k x hx
          have HC1 : Hid (∀ W, wr.grownBy W none → W.cell? ⟨g, o + k * 3 + 1, none⟩ = some (.int .i64 x.f)) := fun W hW => (World.cell?_of_block (a := ⟨g, o + k * 3 + 1, none⟩) (hW.block g hgl (by simp))).trans h1
          have HC2 : Hid (∀ W, wr.grownBy W none → W.cell? ⟨g, o + k * 3 + 2, none⟩ = some (.int .i64 x.t)) := fun W hW => (World.cell?_of_block (a := ⟨g, o + k * 3 + 2, none⟩) (hW.block g hgl (by simp))).trans h2
          have hxo := Ob.out x (List.mem_of_getElem? hx)
          have hw : IntKind.i64.wrap (x.t + 1) = x.t + 1 := by obtain ⟨_, _, k3, k4, k5⟩ := hxo; rw [IntKind.wrap_i64]; omega
          have Hmore := Lib.hid (pts_more (dev : Int) (pts (dev : Int) [] a) hx)
          have HIL := Lib.hid hIL
          have Hlen : Hid ((mk L x.f).length ≤ 1000000) := by show _ ≤ _; have := mk_len_le L x.f; omega
          have hl2 : (mk (mk L x.f) (x.t + 1)).length ≤ L.length + 2 := by have h1 := mk_len_le (mk L x.f) (x.t + 1); have h2 := mk_len_le L x.f; omega
          clear hcc hx hxo h1 h2 hIL
          by_cases e1 : x.d = (dev : Int)
          · have f1 : (x.d == (dev : Int)) = true := by rw [e1]; simp
            have Hn : Hid (mk (mk L x.f) (x.t + 1) = pts (dev : Int) (pts (dev : Int) [] a) (b.take (k + 1))) := by show _ = _; rw [Hmore.out, if_pos e1, ← HL.out]
            clear e1
            go_upto_region 11 with fail
            clear h0 f1
            have hc1' := fun W hW => HC1.out W hW
            have hc2' := fun W hW => HC2.out W hW
            have hgd := fun y => (propext ⟨fun h => ⟨h.os, h.tape, h.output, h.size, h.block⟩, fun h => gb_drew h⟩ : wr.grownBy (World.drew y) none = wr.grownBy y none)
            have r0 := gb_refl wr none
            go_region_with (first
              | (go_at_call 74; with_reducible refine (mark_loop A1 L.length c1 L x.f _ (HIL.out.keep (by repeat first | exact gb_refl _ _ | apply gb_drew)) HRi.out (by omega) Hc1.out H01.out).mono ?_; rintro e y1 ⟨A2, c2, rfl, hil2, hle2, gy1⟩; have gz1 : wr.grownBy y1 none := gb_none (by repeat first | exact gb_refl _ _ | apply gb_drew) gy1)
              | (go_at_call 74; with_reducible refine (mark_loop A2 (mk L x.f).length c2 (mk L x.f) (x.t + 1) _ (hil2.keep (by repeat first | exact gb_refl _ _ | apply gb_drew)) (mk_rising _ HRi.out) Hlen.out hle2 (fun h => absurd h (by have := mk_pos L x.f; omega))).mono ?_; rintro e y2 ⟨A3, c3, rfl, hil3, hle3, gy2⟩))
            all_goals
              have g3 : w.grownBy y2 none := gb_none (by repeat first | exact gb_none hg gz1 | apply gb_drew) gy2
              have Hil3 := Lib.hid hil3
              clear hil3 hc1' hc2' hgd r0
              go_wp2_with fail
              go_roundw
              case rel => exact ⟨k + 1, A3, c3, mk (mk L x.f) (x.t + 1), by omega, by go_num, Hn, rfl, Hil3.out, (fun h => absurd h (by have := mk_pos (mk L x.f) (x.t + 1); omega)), hle3, mk_rising _ (mk_rising _ HRi.out), by omega, g3⟩
              case measure => simp [intOf]; omega
          · have f1 : (x.d == (dev : Int)) = false := by rw [beq_eq_false_iff_ne]; exact e1
            have Hn : Hid (L = pts (dev : Int) (pts (dev : Int) [] a) (b.take (k + 1))) := by show _ = _; rw [Hmore.out, if_neg e1, HL.out]
            clear e1
            go_wp2_with fail
            go_roundw
            case rel => exact ⟨k + 1, A1, c1, L, by omega, by go_num, Hn, rfl, HIL.out, H01, Hc1, HRi, by omega, hg⟩
            case measure => simp [intOf]; omega
        · have hkn : k = m := by omega
          subst hkn
          have d1 : decide (k < k) = false := by simp
          have d2 : decide ((k : Int) < (k : Int)) = false := by simp
          have HIL := Lib.hid hIL
          clear hIL
          go_wp2_with fail
          have HLb : Hid (L = pts (dev : Int) (pts (dev : Int) [] a) b) := by
            show _ = _
            have h := HL.out
            rwa [List.take_of_length_le (by rw [Hb.out.1]; exact Nat.le_refl _)] at h
          have HB : Hid (∀ x ∈ L, 1 ≤ x ∧ x ≤ 4503599627370497) := by show ∀ x ∈ L, _; rw [HLb.out]; exact places_bnd _ _ _ Oa.out Ob.out
          have Hend : Hid (mixR (dev : Int) a b alone = (go (dev : Int) (keep a b alone (dev : Int)) [] L).reverse) := by show _ = _; rw [HLb.out]; rfl
          have Hn2 : Hid (L.length ≤ 400000) := by show _ ≤ _; omega
          have HG := Lib.hid hg
          have Hlt2 : Hid (L.length - L.length = 0) := Nat.sub_self _
          clear d1 d2 HL hlt hk hLk hN3 hN2 H01 Hc1 HRi hg
          obtain ⟨W3, rfl⟩ : ∃ W3, W3 = wr := ⟨_, rfl⟩
          go_loopw [13, 12] (fun i v wr => ∃ (q N : Nat) (rs : List Rn), q ≤ L.length ∧ i = .int .i64 q ∧ Hid (go (dev : Int) (keep a b alone (dev : Int)) [] L = go (dev : Int) (keep a b alone (dev : Int)) rs (L.drop q)) ∧ Hid (N = rs.length) ∧ wr.ownsRow W3.heap.size 56 3 v N (rv rs.reverse) ∧ Hid (N = 0 → v = .slice none 0 0) ∧ N ≤ q ∧ W3.grownBy wr none) (fun i _ _ => L.length - (intOf i).toNat)
          case atStart => exact ⟨0, 0, [], Nat.zero_le _, rfl, rfl, rfl, World.ownsRow_nil _ _ _ _, fun _ => rfl, Nat.zero_le _, gb_refl _ _⟩
          case round =>
            obtain ⟨q, N, rs, hq, rfl, HD, HN, hown, HV, hNq, hg⟩ := hrel
            by_cases hlt : q + 1 < L.length
            · have d1 : decide ((q : Int) + 1 < (L.length : Int)) = true := decide_eq_true (by omega)
              have b1 : (q : Int) + 1 < (L.length : Int) := by omega
              have b2 : (q : Int) < (L.length : Int) := by omega
              have lb : (L.length : Int) ≤ 400000 := by have := Hn2.out; omega
              obtain ⟨g, o, rfl, hgl, hcc⟩ := HIL.out.2 (by omega)
              obtain ⟨x, Hx⟩ : ∃ x, Hid (L[q]? = some x) := ⟨_, List.getElem?_eq_getElem (by omega)⟩
              obtain ⟨y, Hy⟩ : ∃ y, Hid (L[q + 1]? = some y) := ⟨_, List.getElem?_eq_getElem hlt⟩
              have HCx : Hid (∀ W, W3.grownBy W none → W.cell? ⟨g, o + q, none⟩ = some (.int .i64 x)) := fun W hW => by
                rw [World.cell?_of_block (a := ⟨g, o + q, none⟩) (hW.block g hgl (by simp)), hcc q (by omega), List.getD_eq_getElem?_getD, Hx.out]; rfl
              have HCy : Hid (∀ W, W3.grownBy W none → W.cell? ⟨g, o + (q + 1), none⟩ = some (.int .i64 y)) := fun W hW => by
                rw [World.cell?_of_block (a := ⟨g, o + (q + 1), none⟩) (hW.block g hgl (by simp)), hcc (q + 1) (by omega), List.getD_eq_getElem?_getD, Hy.out]; rfl
              have cx := HCx.out wr hg
              have bx := HB.out x (List.mem_of_getElem? Hx.out)
              have bY := HB.out y (List.mem_of_getElem? Hy.out)
              have Hnext := Lib.hid (go_next (dev : Int) (keep a b alone (dev : Int)) rs Hx.out Hy.out)
              have Hcc := Lib.hid hcc
              clear hcc
              go_upto_region 17 with fail
              obtain ⟨W4, hW4⟩ : ∃ W4, wr.alloc (.cells #[.int .i64 (dev : Int), .int .i64 x] 35) = W4 := ⟨_, rfl⟩
              have hr4 : Row W4 wr.heap.size 35 #[.int .i64 (dev : Int), .int .i64 x] := by rw [← hW4]; exact Row.new _ _ _
              have HD0 : Hid (∀ W, W4.grownBy W none → W.cell? ⟨wr.heap.size, 0, none⟩ = some (.int .i64 (dev : Int))) := fun W hW => (hr4.kept hW (by simp)).at_ (i := 0) rfl
              have HD1 : Hid (∀ W, W4.grownBy W none → W.cell? ⟨wr.heap.size, 1, none⟩ = some (.int .i64 x)) := fun W hW => (hr4.kept hW (by simp)).at_ (i := 1) rfl
              have hg4 : W3.grownBy W4 none := by rw [← hW4]; exact gb_alloc hg _
              have Hown4 : Hid (W4.ownsRow W3.heap.size 56 3 u12 N (rv rs.reverse)) := by rw [← hW4]; exact hown.alloc _
              have hS : W3.heap.size ≤ wr.heap.size := hg.size
              rw [hW4]
              clear hW4 hr4 hown hg cx
              generalize wr.heap.size = D4 at *
              have Hg4 := Lib.hid hg4
              have gA : Hid (w.grownBy W4 none) := gb_none HG.out hg4
              clear hg4
              apply wp_region_told (le := fun a b => a.grownBy b none) [isV _, isV _, isV _, isV _, isV _, isV _, isV _, isV _]
              case hn => rfl
              case hm => kernel_rfl
              case hB => kernel_rfl
              case ht => exact fun _ _ _ h k => gb_none h k
              case hw => exact gb_drew (gb_refl _ _)
              -- 0: ref.go:63 move
              apply told_is
              · intro W f hW hE h0 K hK
                have e1 := h0 1 (by kernel_rfl)
                conv at e1 => rhs; whnf
                clear hE h0
                refine yes_of (want_free rfl) ?_
                go_simp; exact hK _ _ (gb_refl _ _) rfl
              -- 1: ref.go:63 load
              apply told_is
              · intro W f hW hE h0 K hK
                have e14 := h0 14 (by kernel_rfl)
                conv at e14 => rhs; whnf
                clear hE h0
                refine yes_of (want_free rfl) ?_
                have hc0 := HD0.out W hW
                have hc1 := HD1.out W hW
                go_simp; exact hK _ _ (gb_refl _ _) rfl
              -- 2: ref.go:63 call
              apply told_is
              · intro W f hW hE h0 K hK
                have e84 : f 84 = _ := hE 1 84 _ rfl (by kernel_rfl)
                have e85 : f 85 = _ := hE 0 85 _ rfl (by kernel_rfl)
                clear hE h0
                refine yes_of (want_free rfl) ?_
                go_simp
                refine (refHas_any _ _ _ a (dev : Int) x _ (Ha.out.keep (gb_none gA.out hW)) (by omega)).mono ?_
                rintro e w1 ⟨rfl, g⟩
                exact ⟨_, rfl, hK _ _ g rfl⟩
              -- 3: ref.go:63 move
              apply told_is
              · intro W f hW hE h0 K hK
                have e2 := h0 2 (by kernel_rfl)
                conv at e2 => rhs; whnf
                clear hE h0
                refine yes_of (want_free rfl) ?_
                go_simp; exact hK _ _ (gb_refl _ _) rfl
              -- 4: ref.go:63 load
              apply told_is
              · intro W f hW hE h0 K hK
                have e14 := h0 14 (by kernel_rfl)
                conv at e14 => rhs; whnf
                clear hE h0
                refine yes_of (want_free rfl) ?_
                have hc0 := HD0.out W hW
                have hc1 := HD1.out W hW
                go_simp; exact hK _ _ (gb_refl _ _) rfl
              -- 5: ref.go:63 call
              apply told_is
              · intro W f hW hE h0 K hK
                have e87 : f 87 = _ := hE 1 87 _ rfl (by kernel_rfl)
                have e88 : f 88 = _ := hE 0 88 _ rfl (by kernel_rfl)
                clear hE h0
                refine yes_of (want_free rfl) ?_
                go_simp
                refine (refHas_any _ _ _ b (dev : Int) x _ (Hb.out.keep (gb_none gA.out hW)) (by omega)).mono ?_
                rintro e w1 ⟨rfl, g⟩
                exact ⟨_, rfl, hK _ _ g rfl⟩
              -- 6: ref.go:63 assign
              apply told_is
              · intro W f hW hE h0 K hK
                have e86 : f 86 = _ := hE 3 86 _ rfl (by kernel_rfl)
                clear hE h0
                refine yes_of (want_free rfl) ?_
                go_simp; exact hK _ _ (gb_refl _ _) rfl
              -- 7: ref.go:63 assign
              apply told_is
              · intro W f hW hE h0 K hK
                have e89 : f 89 = _ := hE 1 89 _ rfl (by kernel_rfl)
                clear hE h0
                refine yes_of (want_free rfl) ?_
                go_simp; exact hK _ _ (gb_refl _ _) rfl
              intro W f hW hA
              simp only [lexIn, Act.put, List.setIfInBounds_toArray, List.set_cons_zero, List.set_cons_succ]
              have e15 : f 15 = _ := hA 1 (some 15) _ rfl
              rw [e15]
              have e16 : f 16 = _ := hA 0 (some 16) _ rfl
              rw [e16]
              clear hA
              have Hkx : Hid (keep a b alone (dev : Int) x = if alone = true then hasB a (dev : Int) x && !hasB b (dev : Int) x else hasB a (dev : Int) x || hasB b (dev : Int) x) := by show _ = _; rfl
              have Hown5 : Hid (W.ownsRow W3.heap.size 56 3 u12 N (rv rs.reverse)) := Hown4.out.kept hW (by cases hv : Value.ownBlock _ with | none => exact .inl rfl | some q => exact .inr (by simp))
              have Hg5 : Hid (W3.grownBy W none) := gb_none Hg4.out hW
              clear e15 e16 hW Hown4 Hg4 gA HD0 HD1
              generalize hasB a (dev : Int) x = xa at *
              generalize hasB b (dev : Int) x = xb at *
              obtain ⟨kb, Hkb⟩ : ∃ kb : Bool, Hid (keep a b alone (dev : Int) x = !kb) := ⟨!keep a b alone (dev : Int) x, by show _ = _; rw [Bool.not_not]⟩
              go_upto_region 19 with fail
              go_cut [105] (fun v wx => v = .bool kb ∧ W = wx)
              case first =>
                have hk2 := Hkx.out
                rw [Hkb.out] at hk2
                have hk3 : kb = if alone = true then !(xa && !xb) else !(xa || xb) := by cases kb <;> cases alone <;> cases xa <;> cases xb <;> first | rfl | exact absurd hk2 (by decide)
                clear hk2 Hkx Hkb
                cases alone <;> cases xa <;> cases xb
                all_goals
                  first
                  | (have hk4 : kb = true := hk3.trans rfl
                     clear hk3
                     subst hk4
                     go_wp2_with fail
                     go_meet
                     exact ⟨rfl, rfl⟩)
                  | (have hk4 : kb = false := hk3.trans rfl
                     clear hk3
                     subst hk4
                     go_wp2_with fail
                     go_meet
                     exact ⟨rfl, rfl⟩)
              case rest =>
                obtain ⟨rfl, rfl⟩ := hcut
                clear Hkx
                cases kb with
                | true =>
                  go_wp2_with fail
                  go_roundw
                  case rel => exact ⟨q + 1, N, rs, by omega, by go_num, (by show _ = _; rw [HD.out, Hnext.out, step_no Hkb.out]), HN, Hown5.out, HV, by omega, Hg5.out⟩
                  case measure => simp [intOf]; omega
                | false =>
                  obtain ⟨tb, Htb⟩ : ∃ tb : Bool, Hid (tb = meets rs x) := ⟨_, rfl⟩
                  have w1 : IntKind.i64.wrap (x - 1) = x - 1 := by rw [IntKind.wrap_i64]; omega
                  have cx := HCx.out W Hg5.out
                  go_upto_region 20 with fail
                  go_cut [122] (fun v wx => v = .bool tb ∧ W.grownBy wx none)
                  case first =>
                    by_cases hN0 : N = 0
                    · subst hN0
                      have hu := HV.out rfl
                      subst hu
                      obtain rfl : rs = [] := List.eq_nil_of_length_eq_zero HN.out.symm
                      obtain rfl : tb = false := Htb.out
                      go_wp2_with fail
                      go_quiet (fail)
                      go_wp2_with fail
                      go_meet
                      exact ⟨rfl, gb_drewN (gb_refl _ _) _⟩
                    · obtain ⟨M, rfl⟩ : ∃ M, N = M + 1 := ⟨N - 1, by omega⟩
                      obtain ⟨gO, cO, rfl, hbO, hlO⟩ := World.ownsRow.form Hown5.out (by omega)
                      cases rs with
                      | nil => have := HN.out; cases this
                      | cons r rs' =>
                        have hM : rs'.length = M := by have := HN.out; simp at this; omega
                        have ct : W.cell? ⟨gO, M * 3 + 2, none⟩ = some (.int .i64 r.t) := by
                          rw [World.ownsRow.cellAt Hown5.out _ (by omega)]
                          exact (rv_at _ M r (by rw [List.reverse_cons, List.getElem?_append_right (by simp; omega)]; simp [hM])).2.2
                        have Htb2 : tb = (r.t == x - 1) := Htb.out
                        have z1 : decide (0 < M + 1) = true := by simp
                        have z2 : ((M + 1 : Nat) : Int) - 1 = (M : Int) := by omega
                        have z3 : (M : Int) < ((M + 1 : Nat) : Int) := by omega
                        have z4 : IntKind.i64.wrap (((M + 1 : Nat) : Int) - 1) = (M : Int) := by rw [IntKind.wrap_i64]; omega
                        have Htb3 := Lib.hid Htb2
                        have hM2 := Lib.hid hM
                        clear hM Htb Htb2 d1
                        cases hb : (r.t == x - 1) with
                        | true =>
                          obtain rfl : tb = true := Htb3.out.trans hb
                          go_wp2_with fail
                          go_quiet (fail)
                          go_wp2_with fail
                          go_meet
                          exact ⟨rfl, gb_drewN (gb_refl _ _) _⟩
                        | false =>
                          obtain rfl : tb = false := Htb3.out.trans hb
                          go_wp2_with fail
                          go_quiet (fail)
                          go_wp2_with fail
                          go_meet
                          exact ⟨rfl, gb_drewN (gb_refl _ _) _⟩
                  case rest =>
                    obtain ⟨rfl, hW6⟩ := hcut
                    have Hg6 : Hid (W3.grownBy wc none) := gb_none Hg5.out hW6
                    have Hown6 : Hid (wc.ownsRow W3.heap.size 56 3 u12 N (rv rs.reverse)) := Hown5.out.kept hW6 (by cases hv : Value.ownBlock _ with | none => exact .inl rfl | some q => exact .inr (by simp))
                    have cx := HCx.out wc Hg6.out
                    have cy := HCy.out wc Hg6.out
                    have w2 : IntKind.i64.wrap (y - 1) = y - 1 := by rw [IntKind.wrap_i64]; omega
                    have w3 : IntKind.i64.wrap ((q : Int) + 1) = (q : Int) + 1 := by rw [IntKind.wrap_i64]; omega
                    have w4 : (0 : Int) ≤ (q : Int) + 1 := by omega
                    have w5 : ((q : Int) + 1).toNat = q + 1 := by omega
                    clear hW6 Hown5 Hg5 d1
                    cases tb with
                    | true =>
                      cases rs with
                      | nil => cases Htb.out
                      | cons r rs' =>
                        obtain ⟨M, rfl⟩ : ∃ M, N = M + 1 := ⟨N - 1, by have := HN.out; simp at this; omega⟩
                        have hM : rs'.length = M := by have := HN.out; simp at this; omega
                        obtain ⟨gO, cO, rfl, hbO, hlO⟩ := World.ownsRow.form Hown6.out (by omega)
                        have hrt : r.t = x - 1 := by have h : true = (r.t == x - 1) := Htb.out; exact eq_of_beq h.symm
                        have Hrv : Hid (rv (r :: rs').reverse = rv (rs'.reverse ++ [r])) := by show _ = _; rw [List.reverse_cons]
                        have ct : wc.cell? ⟨gO, M * 3 + 2, none⟩ = some (.int .i64 r.t) := by
                          rw [World.ownsRow.cellAt Hown6.out _ (by omega), Hrv.out]
                          exact (rv_at _ M r (by rw [List.getElem?_append_right (by simp; omega)]; simp [hM])).2.2
                        have fz := World.ownsRow.frozenAt Hown6.out (M * 3 + 2)
                        have st := World.ownsRow.stored Hown6.out (M * 3 + 2) (.int .i64 (y - 1))
                        have Hset : Hid ((rv (r :: rs').reverse).set (M * 3 + 2) (.int .i64 (y - 1)) = rv (⟨r.d, r.f, y - 1⟩ :: rs').reverse) := by show _ = _; rw [List.reverse_cons, List.reverse_cons, ← hM, show rs'.length = rs'.reverse.length by simp]; exact rv_set _ _ _
                        rw [Hset.out] at st
                        have Hst := Lib.hid st
                        have Hstep : Hid (go (dev : Int) (keep a b alone (dev : Int)) [] L = go (dev : Int) (keep a b alone (dev : Int)) (⟨r.d, r.f, y - 1⟩ :: rs') (L.drop (q + 1))) := by show _ = _; rw [HD.out, Hnext.out, step_yes Hkb.out hrt]
                        have z2 : ((M + 1 : Nat) : Int) - 1 = (M : Int) := by omega
                        have z3 : (M : Int) < ((M + 1 : Nat) : Int) := by omega
                        have z4 : IntKind.i64.wrap (((M + 1 : Nat) : Int) - 1) = (M : Int) := by rw [IntKind.wrap_i64]; omega
                        have hM2 : Hid (M + 1 = (⟨r.d, r.f, y - 1⟩ :: rs' : List Rn).length) := by show _ = _; rw [List.length_cons, hM]
                        clear hM hrt st Htb HN Hkb Hset Hrv Hnext HD HV cx
                        go_wp2_with fail
                        go_roundw
                        case rel => exact ⟨q + 1, M + 1, _, by omega, by go_num, Hstep.out, hM2, Hst.out.1, fun h => absurd h (by omega), by omega, gb_new Hg6.out Hst.out.2 hbO⟩
                        case measure => simp [intOf]; omega
                    | false =>
                      have Hstep : Hid (go (dev : Int) (keep a b alone (dev : Int)) [] L = go (dev : Int) (keep a b alone (dev : Int)) (⟨(dev : Int), x, y - 1⟩ :: rs) (L.drop (q + 1))) := by show _ = _; rw [HD.out, Hnext.out, step_new Hkb.out Htb.out.symm]
                      have HN2 : Hid (N + 1 = (⟨(dev : Int), x, y - 1⟩ :: rs : List Rn).length) := by show _ = _; rw [List.length_cons, ← HN.out]
                      have Hrv : Hid (rv rs.reverse ++ [.int .i64 (dev : Int), .int .i64 x, .int .i64 (y - 1)] = rv (⟨(dev : Int), x, y - 1⟩ :: rs).reverse) := by show _ = _; rw [List.reverse_cons, rv_append]; rfl
                      have Hsz := Hg6.out.size
                      have Hm : Hid (N + 1 ≤ maxLen ∧ (N + 1) * 24 ≤ 140737488355328) := by show _ ∧ _; simp only [maxLen]; omega
                      have own6 := Hown6.out
                      clear Htb HN Hkb Hnext HD HV Hown6
                      go_upto_region 18 with fail
                      go_region_held3 (fun w' => w'.cell? ⟨g, o + q, none⟩ = some (.int .i64 x) ∧ w'.cell? ⟨g, o + (q + 1), none⟩ = some (.int .i64 y)) (first | go_keep | exact (fun hh => ⟨HCx.out _ hh, HCy.out _ hh⟩) (gb_step (gb_drew (gb_alloc Hg6.out _)) hgrow (fun i e => .inr (own6.lt i e).1)))
                        ((refine step_append_lies _ (by rfl) _ _ _ (by rfl) W3.heap.size 56 i0 (.agg #[.int .i64 0, .int .i64 0, .int .i64 0]) 3 24 Try.underlying23 Hi0.out Hz0.out Hz1.out Hz2.out rfl (by decide) _ N _ (by rfl) ((own6.alloc _).drew) ⟨wc.heap.size, 0, none⟩ 1 1 [.int .i64 (dev : Int), .int .i64 x, .int .i64 (y - 1)] (by rfl) (by rfl) (World.news_of_block (cs := #[.int .i64 (dev : Int), .int .i64 x, .int .i64 (y - 1)]) (t := 56) (fr := (0, 0)) (heap_alloc_new wc _)) (ints3 _ _ _) (by decide) Hm.out.1 Hm.out.2 (by simp; omega) (wc.heap.size + 1) (by simp) ?_; intro g' cap' w' own' hgrow hat hlt'))
                      have Hg7 : Hid (W3.grownBy w' none) := gb_step (gb_drew (gb_alloc Hg6.out _)) hgrow (fun i e => .inr (own6.lt i e).1)
                      rw [Hrv.out] at own'
                      have Hown7 := Lib.hid own'
                      clear own' hgrow hat hlt' own6 cx cy w3 w4 w5
                      go_wp2_with fail
                      go_roundw
                      case rel => exact ⟨q + 1, N + 1, _, by omega, by go_num, Hstep.out, HN2, Hown7.out, fun h => absurd h (by omega), by omega, Hg7.out⟩
                      case measure => simp [intOf]; omega
            · have d1 : decide ((q : Int) + 1 < (L.length : Int)) = false := decide_eq_false (by omega)
              have lb : (L.length : Int) ≤ 400000 := by have := Hn2.out; omega
              have Hfin : Hid (mixR (dev : Int) a b alone = rs.reverse) := by show _ = _; rw [Hend.out, HD.out, go_end _ _ _ (by omega)]
              have hg7 : w.grownBy wr none := gb_none HG.out hg
              obtain ⟨A3, c3, hv, hR, hc3⟩ := own_rl hown (by rw [List.length_reverse]; exact HN.out.symm)
              have Hnil : Hid (N = 0 → A3 = none ∧ c3 = 0) := fun h => by have := HV.out h; rw [hv] at this; cases this; exact ⟨rfl, rfl⟩
              subst hv
              have HR := Lib.hid hR
              have Hg7 := Lib.hid hg7
              clear HD HV hR hg hg7 hown hlt
              go_wp2_with fail
              go_ret
              have e : rs.reverse.length = N := by rw [List.length_reverse]; exact HN.out.symm
              rw [Hfin.out]
              refine ⟨A3, c3, ?_, ?_, ?_, Hg7.out⟩
              · rw [e]; rfl
              · rw [e]; exact HR.out
              · rw [e]; exact ⟨Hnil.out, hc3⟩
theorem mix_c : MixC := fun dev A B n c m d a b alone W _ ha hb oa ob hn hm => ⟨by have h := mix_len_le (dev : Int) a b alone; rw [ha.1, hb.1] at h; omega, mix_any dev A B n c m d a b alone W ha hb oa ob hn hm⟩
end Go.Proofs.Ytblndpfgfakdeaa.Dt
