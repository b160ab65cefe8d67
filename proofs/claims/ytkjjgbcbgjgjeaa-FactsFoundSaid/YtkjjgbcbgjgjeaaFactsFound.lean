/-
  Proved: whatever values of its parameters' types it is called with, deaddroplaw8.FactsFound returns true, and each argument reads behind the call as it read before.
  Conditions: none but those of the row itself.
-/
import Derived.Test.YtkjjgbcbgjgjeaaRows
import Derived.WalkKit
import Derived.ProofKit
import Derived.OpenShut
import Derived.ShutString
import Derived.Test.YtkjjgbcbgjgjeaaFtLaw
import Derived.Test.YtkjjgbcbgjgjeaaFtMake
import Derived.Test.YtkjjgbcbgjgjeaaFtFound
import Derived.Test.YtkjjgbcbgjgjeaaTold
import Derived.Deep.DeepCutAuto
import Derived.ChangeOld
import Derived.Below
namespace Go.Proofs.Ytkjjgbcbgjgjeaa.factsFound
open Go.ChangeShapes Go.WideShapes Go.ChangeAt Go.RowKit
open Go.ChangeMaps (open_string shut_string)
open Go.Proofs.Ytkjjgbcbgjgjeaa.Mm Go.Proofs.Ytkjjgbcbgjgjeaa.Dt Go.Proofs.Ytkjjgbcbgjgjeaa.Td
set_option linter.unusedVariables false

theorem own : ownKnob Try.prog.godebug = none := by kernel_rfl
theorem laidOut : laidOutB Try.prog = true := by kernel_rfl
/-- What the walk is told of a slice of integers that came in. -/
def IsRow (k : IntKind) (w : World) (a : Option Addr) (len cap : Nat) (zs : List Int) : Prop :=
  (a = none ∧ len = 0 ∧ cap = 0 ∧ zs = []) ∨
  ∃ x, a = some x ∧ len ≤ cap ∧ cap ≤ maxLen ∧ zs.length = cap ∧ (∀ i, i < zs.length → w.cell? (x.add i) = some (.int k (zs.getD i 0))) ∧ ∀ n ∈ zs, (Lit.int k n).wf = true

attribute [local go_sem] Td.upon_value Td.upon_skip Td.upon_enter Td.upon_row Td.look_tmp Td.look_const Td.look_func Td.look_global
/-- How many facts of a key the first kinds have. -/
def cntF (l : List Fc) (k : ByteArray) : Nat → Nat
  | 0 => 0
  | q + 1 => cntF l k q + (findL l k ((q : Int) + 1)).length
theorem cntF_le (l : List Fc) (k : ByteArray) : ∀ q, cntF l k q ≤ l.length * q
  | 0 => Nat.zero_le _
  | q + 1 => by
    have h := cntF_le l k q
    have h2 := find_len l k ((q : Int) + 1)
    rw [cntF, Nat.mul_succ]
    omega
theorem cnt_all {l : List Fc} (h : ∀ f ∈ l, RightF f) (k : ByteArray) : (findL l k 0).length = cntF l k 3 := by
  rw [find_sum h k]
  show _ = 0 + (findL l k ((0 : Nat) + 1 : Int)).length + (findL l k ((1 : Nat) + 1 : Int)).length + (findL l k ((2 : Nat) + 1 : Int)).length
  simp

set_option maxHeartbeats 40000000 in
set_option maxRecDepth 100000 in
theorem walk (a0 : Option Addr) (len0 cap0 : Nat) (z0 : List Int) (a1 : Int) (w : World) (w0 : IsRow .u8 w a0 len0 cap0 z0) (w1 : (Lit.int .u8 a1).wf = true) :
    Calls Try.prog 4 #[.slice a0 len0 cap0, .int .u8 a1] w fun e w' => e = .returned (.bool true) ∧ Below w.heap.size w w' := by
  obtain ⟨x10, x11⟩ : 0 ≤ a1 ∧ a1 ≤ 255 := by
    have h1 : IntKind.u8.min = 0 := by decide
    have h2 : IntKind.u8.max = 255 := by decide
    simp only [Lit.wf, h1, h2, Bool.and_eq_true, decide_eq_true_eq] at w1
    exact w1
  obtain ⟨hnl0, _, _⟩ := nl_of_row w0
  obtain ⟨s, hsd0⟩ : ∃ s, makeK (z0.take len0) (min (len0 / 2) 40) = s := ⟨_, rfl⟩
  have HMays : Hid (MayS s) := by rw [← hsd0]; exact makeK_may _ _
  have HLens : Hid (s.seen.length ≤ 320 ∧ s.facts.length ≤ 320) := by
    have h := (makeK_low (z0.take len0) (min (len0 / 2) 40)).short (makeK_may _ _)
    rw [hsd0] at h
    show _ ∧ _
    omega
  have HKeys : Hid (Keyed s) := by rw [← hsd0]; exact makeK_keyed _ _
  have HMs : Hid (∀ W, w.grownBy W none → Calls Try.prog 12 #[.slice a0 len0 cap0] W (States s W)) := fun W hW => by rw [← hsd0]; exact make_any a0 len0 cap0 _ W (hnl0.keep hW)
  clear hnl0 hsd0
  have HM := Lib.hid (HMs.out w (gb_refl _ _))
  obtain ⟨r1, hr1⟩ : ∃ r1, a1 % 3 = r1 := ⟨_, rfl⟩
  obtain ⟨X, hX⟩ : ∃ X, 107 + r1 = X := ⟨_, rfl⟩
  have Hb1 : Hid (a1.tmod 3 = r1) := by show _ = _; rw [Int.tmod_eq_emod_of_nonneg x10, hr1]
  have Hb2 : Hid (IntKind.u8.wrap r1 = r1) := by show _ = _; rw [IntKind.wrap_u8']; omega
  have Hb3 : Hid (IntKind.u8.wrap (107 + r1) = X) := by show _ = _; rw [IntKind.wrap_u8']; omega
  have HX0 : Hid (0 ≤ X ∧ X < 256) := by show _ ∧ _; omega
  clear hr1 hX x10 x11 w0 w1 HMs
  go_enter Try.func4, Try.ntmps4
  go_upto_region 2 with (go_at_call 12; refine HM.out.mono ?_; rintro e w1 ⟨A, n, c, B, m, d, rfl, hs, hc, hd, g1⟩)
  obtain ⟨hb, hhb⟩ : ∃ hb, w1.heap.size = hb := ⟨_, rfl⟩
  rw [hhb]
  refine Td.named (fun W => w.grownBy W none ∧ Row W hb 26 #[.slice A n c, .slice B m d] ∧ SL W A n B m s) ⟨gb_alloc g1 _, by rw [← hhb]; exact Row.new _ _ _, hs.keep (gb_alloc (gb_refl _ _) _)⟩ ?_
  rintro W1 ⟨G1, hrow, hs1⟩
  have HG1 := Lib.hid G1
  have HRow := Lib.hid hrow
  have HS := Lib.hid hs1
  clear hhb hs hc hd g1 G1 hrow hs1 HM
  have hc1 := text_b1 (x := X) HX0.out.1 HX0.out.2 (Row.new W1 5 #[.int .u8 X])
  obtain ⟨kk, hkk⟩ : ∃ kk, b1 X = kk := ⟨_, rfl⟩
  rw [hkk] at hc1
  have t1 := Hb1.out
  have t2 := Hb2.out
  have t3 := Hb3.out
  clear hkk
  go_upto_region 3 with fail
  clear hc1 t1 t2 t3
  have hnm : n ≤ 320 ∧ m ≤ 320 := by have h1 := HS.out.1.1; have h2 := HS.out.2.1; have h3 := HLens.out; omega
  have Hnm := Lib.hid hnm
  have HK2 : Hid (∀ W, (W1.alloc (.cells #[.int .u8 X] 5)).grownBy W none → W.cell? ⟨hb, 0, none⟩ = some (.slice A n c) ∧ W.cell? ⟨hb, 1, none⟩ = some (.slice B m d) ∧ SL W A n B m s) := fun W hW => by
    have k : W1.grownBy W none := gb_none (gb_alloc (gb_refl _ _) _) hW
    exact ⟨(HRow.out.kept k (by simp)).at_ (i := 0) rfl, (HRow.out.kept k (by simp)).at_ (i := 1) rfl, HS.out.keep k⟩
  have HG2 : Hid (w.grownBy (W1.alloc (.cells #[.int .u8 X] 5)) none) := gb_alloc HG1.out _
  clear hnm HRow
  obtain ⟨W2, hW2⟩ : ∃ W2, W1.alloc (.cells #[.int .u8 X] 5) = W2 := ⟨_, rfl⟩
  rw [hW2] at HK2 HG2
  rw [hW2]
  clear hW2
  obtain ⟨La, hLa⟩ : ∃ La, (findL s.facts kk 0).length = La := ⟨_, rfl⟩
  have HLa := Lib.hid hLa
  obtain ⟨y0, y1, hy⟩ := HK2.out W2 (gb_refl _ _)
  have Hy := Lib.hid hy
  clear hLa hy
  go_upto_region 4 with (go_at_call 15; refine (pFind_any A B n c m d s kk 0 W2 Hy.out (by have := Hnm.out; omega)).mono ?_; rintro e w3 ⟨A3, c3, he, hf3, hl3, g3⟩; rw [HLa.out] at he; subst he)
  have Hg0 := Lib.hid g3
  clear hf3 hl3 g3 y0 y1 Hy
  go_wp2_with fail
  go_loopw [8, 9] (fun nv kv wr => ∃ (q : Nat) (kd : Int), q ≤ 3 ∧ kv = .int .i64 kd ∧ kd = (q : Int) + 1 ∧ nv = .int .i64 (cntF s.facts kk q : Int) ∧ W2.grownBy wr none) (fun _ kv _ => 5 - (intOf kv).toNat)
  case atStart => exact ⟨0, 1, by decide, rfl, rfl, rfl, Hg0.out⟩
  case round =>
    obtain ⟨q, kd, hq, rfl, hkd, rfl, hg⟩ := hrel
    obtain ⟨cn, hcn⟩ : ∃ cn, cntF s.facts kk q = cn := ⟨_, rfl⟩
    rw [hcn]
    have Hg := Lib.hid hg
    obtain ⟨y0, y1, hy⟩ := HK2.out wr hg
    have Hy := Lib.hid hy
    by_cases hq3 : q < 3
    · have d1 : decide (kd ≤ 3) = true := decide_eq_true (by omega)
      obtain ⟨fl, hfl⟩ : ∃ fl, findL s.facts kk kd = fl := ⟨_, rfl⟩
      obtain ⟨L, hL⟩ : ∃ L, fl.length = L := ⟨_, rfl⟩
      obtain ⟨kd2, hkd2⟩ : ∃ kd2, kd + 1 = kd2 := ⟨_, rfl⟩
      obtain ⟨cn2, hcn2⟩ : ∃ cn2, cntF s.facts kk (q + 1) = cn2 := ⟨_, rfl⟩
      have hnx : cn2 = cn + L := by rw [← hcn2, ← hcn, ← hL, ← hfl, hkd]; rfl
      have hLb : L ≤ 320 := by
        have h := find_len s.facts kk kd
        rw [hfl, hL] at h
        exact Nat.le_trans h HLens.out.2
      have hcb : cn ≤ 320 * 3 := by
        have h := cntF_le s.facts kk q
        rw [hcn] at h
        exact Nat.le_trans h (Nat.mul_le_mul HLens.out.2 (by omega))
      have t3 : IntKind.i64.wrap ((cn : Int) + (L : Int)) = (cn2 : Int) := by rw [IntKind.wrap_i64]; omega
      have HFl := Lib.hid hfl
      have HL := Lib.hid hL
      have HLb := Lib.hid hLb
      have Hkd : Hid (1 ≤ kd ∧ kd = (q : Int) + 1) := ⟨by omega, hkd⟩
      have Hkd2 := Lib.hid hkd2
      have Hcn2 := Lib.hid hcn2
      have Hqlt := Lib.hid hq3
      clear hfl hL hkd hkd2 hcn2 hnx hLb hcb hcn hg hy hq hq3
      go_upto_region 9 with (go_at_call 15; refine (pFind_any A B n c m d s kk kd wr Hy.out (by have := Hnm.out; omega)).mono ?_; rintro e w3 ⟨A4, c4, he, hf3, hl3, g3⟩; rw [HFl.out, HL.out] at he; rw [HFl.out, HL.out] at hf3; subst he)
      have HF3 := Lib.hid hf3
      have Hg3 := Lib.hid (gb_none Hg.out g3)
      clear hf3 hl3 g3 y0 y1 Hy
      go_wp2_with fail
      clear t3 d1
      go_loopw [11] (fun iv wr => ∃ i : Nat, i ≤ L ∧ iv = .int .i64 i ∧ w3.grownBy wr none) (fun iv _ => L - (intOf iv).toNat)
      case atStart => exact ⟨0, Nat.zero_le _, rfl, gb_refl _ _⟩
      case round =>
        obtain ⟨i, hi, rfl, hg5⟩ := hrel
        by_cases hlt : i < L
        · have d1 : decide (i < L) = true := decide_eq_true hlt
          have d2 : decide ((i : Int) < (L : Int)) = true := decide_eq_true (by omega)
          obtain ⟨g, o, rfl, hgl, hcc⟩ := (HF3.out.keep hg5).2 (by omega)
          obtain ⟨x, hx⟩ : ∃ x, fl[i]? = some x := ⟨_, List.getElem?_eq_getElem (by rw [HL.out]; exact hlt)⟩
          have hxm := List.mem_of_getElem? hx
          rw [← HFl.out] at hxm
          obtain ⟨hxs, hxk, hxq⟩ := find_mem.1 hxm
          have hxr := (HMays.out.2.2.1 x hxs).1
          have hat := hcc i x hx
          have hxq2 : x.kind = kd := hxq.elim (fun h => by have := Hkd.out; omega) id
          obtain ⟨xd, xn, xk, xkd, xi, xv⟩ := x
          dsimp only at hxk hxq2
          subst hxk hxq2
          have HX : Hid (∀ W, wr.grownBy W none → At6 W g (o + i * 6) ⟨xd, xn, xk, xkd, xi, xv⟩) := fun W hW => hat.keep hgl hW
          have HB0 : Hid ((i : Int) < (L : Int)) := by show _ < _; omega
          have HR : Hid (decide (RightF ⟨xd, xn, xk, xkd, xi, xv⟩) = true) := decide_eq_true hxr
          have Hg5 := Lib.hid hg5
          have Hlt := Lib.hid hlt
          have Hx := Lib.hid hx
          by_cases hi0 : i = 0
          · have Hp0 : Hid (decide (0 < (i : Int)) = false ∧ decide (0 < i) = false) := ⟨decide_eq_false (by omega), decide_eq_false (by omega)⟩
            clear hcc hgl hx hxm hxs hxr hat hg5 hlt hxq hi0 hi
            go_upto_region 13 with fail
            apply wp_region_told (le := fun a b => a.grownBy b none) [isV _, isV _, isV _, isV _, isV _, isV _, isV _, isV _, isV _, isV _, isV _, isV _, isV _, isV _, isV _, isV _, isV _, isV _, isV _, isV _, isV _, isV _, isV _, isV _, isV _, isV _, isV _, isV _, isV _, isV _, isV _, isV _, isV _, isV _, isV _, isV _, isV _, isV _, isV _, isV _, isV _, isV _, isV _]
            case hn => rfl
            case hm => kernel_rfl
            case hB => kernel_rfl
            case ht => exact fun _ _ _ h k => gb_none h k
            case hw => exact gb_drew (gb_refl _ _)
            -- 0: more.go:19 move
            apply told_is
            · intro W f hW hE h0 K hK
              have e10 := h0 10 (by kernel_rfl)
              conv at e10 => rhs; whnf
              clear hE h0
              refine yes_of (want_free rfl) ?_
              go_simp; exact hK _ _ (gb_refl _ _) rfl
            -- 1: more.go:19 move
            apply told_is
            · intro W f hW hE h0 K hK
              have e11 := h0 11 (by kernel_rfl)
              conv at e11 => rhs; whnf
              clear hE h0
              refine yes_of (want_free rfl) ?_
              go_simp; exact hK _ _ (gb_refl _ _) rfl
            -- 2: more.go:19 indexAddr
            apply told_is
            · intro W f hW hE h0 K hK
              have e40 : f 40 = _ := hE 1 40 _ rfl (by kernel_rfl)
              have e41 : f 41 = _ := hE 0 41 _ rfl (by kernel_rfl)
              clear hE h0
              refine yes_of (want_free rfl) ?_
              have b0 := HB0.out
              go_simp; exact hK _ _ (gb_refl _ _) rfl
            -- 3: more.go:19 fieldAddr
            apply told_is
            · intro W f hW hE h0 K hK
              have e42 : f 42 = _ := hE 0 42 _ rfl (by kernel_rfl)
              clear hE h0
              refine yes_of (want_free rfl) ?_
              go_simp; exact hK _ _ (gb_refl _ _) rfl
            -- 4: more.go:19 load
            apply told_is
            · intro W f hW hE h0 K hK
              have e43 : f 43 = _ := hE 0 43 _ rfl (by kernel_rfl)
              clear hE h0
              refine yes_of (want_free rfl) ?_
              obtain ⟨q0, q1, q2, q3, q4, q5⟩ := HX.out W hW
              go_simp; exact hK _ _ (gb_refl _ _) rfl
            -- 5: more.go:19 move
            apply told_is
            · intro W f hW hE h0 K hK
              have e9 := h0 9 (by kernel_rfl)
              conv at e9 => rhs; whnf
              clear hE h0
              refine yes_of (want_free rfl) ?_
              go_simp; exact hK _ _ (gb_refl _ _) rfl
            -- 6: more.go:19 binOp
            apply told_is
            · intro W f hW hE h0 K hK
              have e44 : f 44 = _ := hE 1 44 _ rfl (by kernel_rfl)
              have e45 : f 45 = _ := hE 0 45 _ rfl (by kernel_rfl)
              clear hE h0
              refine yes_of (want_free rfl) ?_
              go_simp; exact hK _ _ (gb_refl _ _) rfl
            -- 7: more.go:19 move
            apply told_is
            · intro W f hW hE h0 K hK
              have e46 : f 46 = _ := hE 0 46 _ rfl (by kernel_rfl)
              clear hE h0
              refine yes_of (want_free rfl) ?_
              go_simp; exact hK _ _ (gb_refl _ _) rfl
            -- 8: more.go:19 move
            apply told_is
            · intro W f hW hE h0 K hK
              have e10 := h0 10 (by kernel_rfl)
              conv at e10 => rhs; whnf
              have e47 : f 47 = _ := hE 0 47 _ rfl (by kernel_rfl)
              clear hE h0
              refine yes_of (want_yes rfl rfl e47) ?_
              go_simp; exact hK _ _ (gb_refl _ _) rfl
            -- 9: more.go:19 move
            apply told_is
            · intro W f hW hE h0 K hK
              have e11 := h0 11 (by kernel_rfl)
              conv at e11 => rhs; whnf
              have e47 : f 47 = _ := hE 1 47 _ rfl (by kernel_rfl)
              clear hE h0
              refine yes_of (want_yes rfl rfl e47) ?_
              go_simp; exact hK _ _ (gb_refl _ _) rfl
            -- 10: more.go:19 indexAddr
            apply told_is
            · intro W f hW hE h0 K hK
              have e48 : f 48 = _ := hE 1 48 _ rfl (by kernel_rfl)
              have e49 : f 49 = _ := hE 0 49 _ rfl (by kernel_rfl)
              have e47 : f 47 = _ := hE 2 47 _ rfl (by kernel_rfl)
              clear hE h0
              refine yes_of (want_yes rfl rfl e47) ?_
              have b0 := HB0.out
              go_simp; exact hK _ _ (gb_refl _ _) rfl
            -- 11: more.go:19 fieldAddr
            apply told_is
            · intro W f hW hE h0 K hK
              have e50 : f 50 = _ := hE 0 50 _ rfl (by kernel_rfl)
              have e47 : f 47 = _ := hE 3 47 _ rfl (by kernel_rfl)
              clear hE h0
              refine yes_of (want_yes rfl rfl e47) ?_
              go_simp; exact hK _ _ (gb_refl _ _) rfl
            -- 12: more.go:19 load
            apply told_is
            · intro W f hW hE h0 K hK
              have e51 : f 51 = _ := hE 0 51 _ rfl (by kernel_rfl)
              have e47 : f 47 = _ := hE 4 47 _ rfl (by kernel_rfl)
              clear hE h0
              refine yes_of (want_yes rfl rfl e47) ?_
              obtain ⟨q0, q1, q2, q3, q4, q5⟩ := HX.out W hW
              go_simp; exact hK _ _ (gb_refl _ _) rfl
            -- 13: more.go:19 move
            apply told_is
            · intro W f hW hE h0 K hK
              have e6 := h0 6 (by kernel_rfl)
              conv at e6 => rhs; whnf
              have e47 : f 47 = _ := hE 5 47 _ rfl (by kernel_rfl)
              clear hE h0
              refine yes_of (want_yes rfl rfl e47) ?_
              go_simp; exact hK _ _ (gb_refl _ _) rfl
            -- 14: more.go:19 binOp
            apply told_is
            · intro W f hW hE h0 K hK
              have e52 : f 52 = _ := hE 1 52 _ rfl (by kernel_rfl)
              have e53 : f 53 = _ := hE 0 53 _ rfl (by kernel_rfl)
              have e47 : f 47 = _ := hE 6 47 _ rfl (by kernel_rfl)
              clear hE h0
              refine yes_of (want_yes rfl rfl e47) ?_
              go_simp; exact hK _ _ (gb_refl _ _) rfl
            -- 15: more.go:19 pick
            apply told_is
            · intro W f hW hE h0 K hK
              have e47 : f 47 = _ := hE 7 47 _ rfl (by kernel_rfl)
              have e54 : f 54 = _ := hE 0 54 _ rfl (by kernel_rfl)
              clear hE h0
              refine yes_of (want_free rfl) ?_
              go_simp; exact hK _ _ (gb_refl _ _) rfl
            -- 16: more.go:19 move
            apply told_is
            · intro W f hW hE h0 K hK
              have e55 : f 55 = _ := hE 0 55 _ rfl (by kernel_rfl)
              clear hE h0
              refine yes_of (want_free rfl) ?_
              go_simp; exact hK _ _ (gb_refl _ _) rfl
            -- 17: more.go:19 move
            apply told_is
            · intro W f hW hE h0 K hK
              have e10 := h0 10 (by kernel_rfl)
              conv at e10 => rhs; whnf
              have e56 : f 56 = _ := hE 0 56 _ rfl (by kernel_rfl)
              clear hE h0
              refine yes_of (want_yes rfl rfl e56) ?_
              go_simp; exact hK _ _ (gb_refl _ _) rfl
            -- 18: more.go:19 move
            apply told_is
            · intro W f hW hE h0 K hK
              have e11 := h0 11 (by kernel_rfl)
              conv at e11 => rhs; whnf
              have e56 : f 56 = _ := hE 1 56 _ rfl (by kernel_rfl)
              clear hE h0
              refine yes_of (want_yes rfl rfl e56) ?_
              go_simp; exact hK _ _ (gb_refl _ _) rfl
            -- 19: more.go:19 indexAddr
            apply told_is
            · intro W f hW hE h0 K hK
              have e57 : f 57 = _ := hE 1 57 _ rfl (by kernel_rfl)
              have e58 : f 58 = _ := hE 0 58 _ rfl (by kernel_rfl)
              have e56 : f 56 = _ := hE 2 56 _ rfl (by kernel_rfl)
              clear hE h0
              refine yes_of (want_yes rfl rfl e56) ?_
              have b0 := HB0.out
              go_simp; exact hK _ _ (gb_refl _ _) rfl
            -- 20: more.go:19 load
            apply told_is
            · intro W f hW hE h0 K hK
              have e59 : f 59 = _ := hE 0 59 _ rfl (by kernel_rfl)
              have e56 : f 56 = _ := hE 3 56 _ rfl (by kernel_rfl)
              clear hE h0
              refine yes_of (want_yes rfl rfl e56) ?_
              obtain ⟨q0, q1, q2, q3, q4, q5⟩ := HX.out W hW
              go_simp; exact hK _ _ (gb_refl _ _) rfl
            -- 21: more.go:19 call
            apply told_is
            · intro W f hW hE h0 K hK
              have e60 : f 60 = _ := hE 0 60 _ rfl (by kernel_rfl)
              have e56 : f 56 = _ := hE 4 56 _ rfl (by kernel_rfl)
              clear hE h0
              refine yes_of (want_yes rfl rfl e56) ?_
              go_simp
              refine (pRight_any ⟨xd, xn, xk, xkd, xi, xv⟩ W).mono ?_
              rintro e w1' ⟨he, g⟩; rw [HR.out] at he; subst he
              exact ⟨_, rfl, hK _ _ g rfl⟩
            -- 22: more.go:19 unOp
            apply told_is
            · intro W f hW hE h0 K hK
              have e61 : f 61 = _ := hE 0 61 _ rfl (by kernel_rfl)
              have e56 : f 56 = _ := hE 5 56 _ rfl (by kernel_rfl)
              clear hE h0
              refine yes_of (want_yes rfl rfl e56) ?_
              go_simp; exact hK _ _ (gb_refl _ _) rfl
            -- 23: more.go:19 pick
            apply told_is
            · intro W f hW hE h0 K hK
              have e56 : f 56 = _ := hE 6 56 _ rfl (by kernel_rfl)
              have e62 : f 62 = _ := hE 0 62 _ rfl (by kernel_rfl)
              clear hE h0
              refine yes_of (want_free rfl) ?_
              go_simp; exact hK _ _ (gb_refl _ _) rfl
            -- 24: more.go:19 move
            apply told_is
            · intro W f hW hE h0 K hK
              have e63 : f 63 = _ := hE 0 63 _ rfl (by kernel_rfl)
              clear hE h0
              refine yes_of (want_free rfl) ?_
              go_simp; exact hK _ _ (gb_refl _ _) rfl
            -- 25: more.go:19 move
            apply told_is
            · intro W f hW hE h0 K hK
              have e11 := h0 11 (by kernel_rfl)
              conv at e11 => rhs; whnf
              have e64 : f 64 = _ := hE 0 64 _ rfl (by kernel_rfl)
              clear hE h0
              refine yes_of (want_yes rfl rfl e64) ?_
              go_simp; exact hK _ _ (gb_refl _ _) rfl
            -- 26: more.go:19 binOp
            apply told_is
            · intro W f hW hE h0 K hK
              have e65 : f 65 = _ := hE 0 65 _ rfl (by kernel_rfl)
              have e64 : f 64 = _ := hE 1 64 _ rfl (by kernel_rfl)
              clear hE h0
              refine yes_of (want_yes rfl rfl e64) ?_
              obtain ⟨p0, p0'⟩ := Hp0.out
              go_simp; exact hK _ _ (gb_refl _ _) rfl
            -- 27: more.go:19 move
            apply told_is
            · intro W f hW hE h0 K hK
              have e66 : f 66 = _ := hE 0 66 _ rfl (by kernel_rfl)
              have e64 : f 64 = _ := hE 2 64 _ rfl (by kernel_rfl)
              clear hE h0
              refine yes_of (want_yes rfl rfl e64) ?_
              go_simp; exact hK _ _ (gb_refl _ _) rfl
            -- 28: more.go:19 move
            apply told_is
            · intro W f hW hE h0 K hK
              have e67 : f 67 = _ := hE 0 67 _ rfl (by kernel_rfl)
              clear hE h0
              refine no_of (want_no rfl rfl e67 rfl) ?_
              exact hK _ _ (gb_refl _ _) rfl
            -- 29: more.go:19 move
            apply told_is
            · intro W f hW hE h0 K hK
              have e67 : f 67 = _ := hE 1 67 _ rfl (by kernel_rfl)
              clear hE h0
              refine no_of (want_no rfl rfl e67 rfl) ?_
              exact hK _ _ (gb_refl _ _) rfl
            -- 30: more.go:19 binOp
            apply told_is
            · intro W f hW hE h0 K hK
              have e67 : f 67 = _ := hE 2 67 _ rfl (by kernel_rfl)
              clear hE h0
              refine no_of (want_no rfl rfl e67 rfl) ?_
              exact hK _ _ (gb_refl _ _) rfl
            -- 31: more.go:19 indexAddr
            apply told_is
            · intro W f hW hE h0 K hK
              have e67 : f 67 = _ := hE 3 67 _ rfl (by kernel_rfl)
              clear hE h0
              refine no_of (want_no rfl rfl e67 rfl) ?_
              exact hK _ _ (gb_refl _ _) rfl
            -- 32: more.go:19 fieldAddr
            apply told_is
            · intro W f hW hE h0 K hK
              have e67 : f 67 = _ := hE 4 67 _ rfl (by kernel_rfl)
              clear hE h0
              refine no_of (want_no rfl rfl e67 rfl) ?_
              exact hK _ _ (gb_refl _ _) rfl
            -- 33: more.go:19 load
            apply told_is
            · intro W f hW hE h0 K hK
              have e67 : f 67 = _ := hE 5 67 _ rfl (by kernel_rfl)
              clear hE h0
              refine no_of (want_no rfl rfl e67 rfl) ?_
              exact hK _ _ (gb_refl _ _) rfl
            -- 34: more.go:19 move
            apply told_is
            · intro W f hW hE h0 K hK
              have e67 : f 67 = _ := hE 6 67 _ rfl (by kernel_rfl)
              clear hE h0
              refine no_of (want_no rfl rfl e67 rfl) ?_
              exact hK _ _ (gb_refl _ _) rfl
            -- 35: more.go:19 move
            apply told_is
            · intro W f hW hE h0 K hK
              have e67 : f 67 = _ := hE 7 67 _ rfl (by kernel_rfl)
              clear hE h0
              refine no_of (want_no rfl rfl e67 rfl) ?_
              exact hK _ _ (gb_refl _ _) rfl
            -- 36: more.go:19 indexAddr
            apply told_is
            · intro W f hW hE h0 K hK
              have e67 : f 67 = _ := hE 8 67 _ rfl (by kernel_rfl)
              clear hE h0
              refine no_of (want_no rfl rfl e67 rfl) ?_
              exact hK _ _ (gb_refl _ _) rfl
            -- 37: more.go:19 fieldAddr
            apply told_is
            · intro W f hW hE h0 K hK
              have e67 : f 67 = _ := hE 9 67 _ rfl (by kernel_rfl)
              clear hE h0
              refine no_of (want_no rfl rfl e67 rfl) ?_
              exact hK _ _ (gb_refl _ _) rfl
            -- 38: more.go:19 load
            apply told_is
            · intro W f hW hE h0 K hK
              have e67 : f 67 = _ := hE 10 67 _ rfl (by kernel_rfl)
              clear hE h0
              refine no_of (want_no rfl rfl e67 rfl) ?_
              exact hK _ _ (gb_refl _ _) rfl
            -- 39: more.go:19 call
            apply told_is
            · intro W f hW hE h0 K hK
              have e67 : f 67 = _ := hE 11 67 _ rfl (by kernel_rfl)
              clear hE h0
              refine no_of (want_no rfl rfl e67 rfl) ?_
              exact hK _ _ (gb_refl _ _) rfl
            -- 40: more.go:19 binOp
            apply told_is
            · intro W f hW hE h0 K hK
              have e67 : f 67 = _ := hE 12 67 _ rfl (by kernel_rfl)
              clear hE h0
              refine no_of (want_no rfl rfl e67 rfl) ?_
              exact hK _ _ (gb_refl _ _) rfl
            -- 41: more.go:19 pick
            apply told_is
            · intro W f hW hE h0 K hK
              have e67 : f 67 = _ := hE 13 67 _ rfl (by kernel_rfl)
              have e80 : f 80 = _ := hE 0 80 _ rfl (by kernel_rfl)
              have e64 : f 64 = _ := hE 16 64 _ rfl (by kernel_rfl)
              clear hE h0
              refine yes_of (want_yes rfl rfl e64) ?_
              go_simp; exact hK _ _ (gb_refl _ _) rfl
            -- 42: more.go:19 pick
            apply told_is
            · intro W f hW hE h0 K hK
              have e64 : f 64 = _ := hE 17 64 _ rfl (by kernel_rfl)
              have e81 : f 81 = _ := hE 0 81 _ rfl (by kernel_rfl)
              clear hE h0
              refine yes_of (want_free rfl) ?_
              go_simp; exact hK _ _ (gb_refl _ _) rfl
            intro W f hW hA
            simp only [lexIn, Act.put, List.setIfInBounds_toArray, List.set_cons_zero, List.set_cons_succ]
            have e82 : f 82 = _ := hA 0 (some 82) _ rfl
            rw [e82]
            clear hA
            have t7 : IntKind.i64.wrap ((i : Int) + 1) = ((i + 1 : Nat) : Int) := by rw [IntKind.wrap_i64]; have := Hlt.out; have := HLb.out; omega
            go_wp2_with fail
            go_roundw
            case rel => exact ⟨i + 1, by have := Hlt.out; omega, rfl, gb_none Hg5.out hW⟩
            case measure => simp [intOf]; have := Hlt.out; omega
          · have Hp0 : Hid (decide (0 < (i : Int)) = true ∧ decide (0 < i) = true) := ⟨decide_eq_true (by omega), decide_eq_true (by omega)⟩
            obtain ⟨j, hj⟩ : ∃ j, i = j + 1 := ⟨i - 1, by omega⟩
            obtain ⟨z, hz⟩ : ∃ z, fl[j]? = some z := ⟨_, List.getElem?_eq_getElem (by rw [HL.out]; omega)⟩
            have hzat := hcc j z hz
            have HZ : Hid (∀ W, wr.grownBy W none → At6 W g (o + j * 6) z) := fun W hW => hzat.keep hgl hW
            have HB1 : Hid ((j : Int) < (L : Int)) := by show _ < _; omega
            have Hsub : Hid (IntKind.i64.wrap ((i : Int) - 1) = (j : Int)) := by show _ = _; rw [IntKind.wrap_i64]; have := HLens.out.2; have := HLb.out; omega
            have HC : Hid (cmpD z.d z.n xd xn = -1) := by
              have hsor := find_sor HMays.out.2.2.2 xk xkd
              rw [HFl.out] at hsor
              have h1 := List.getElem?_eq_some_iff.1 hz
              have h2 := List.getElem?_eq_some_iff.1 Hx.out
              obtain ⟨l1, e1⟩ := h1
              obtain ⟨l2, e2⟩ := h2
              have h := (List.pairwise_iff_getElem.1 hsor) j i l1 l2 (by omega)
              rw [e1, e2] at h
              exact cmp_lt h
            clear hcc hgl hx hxm hxs hxr hat hg5 hlt hxq hz hzat hj hi0 hi
            go_upto_region 13 with fail
            apply wp_region_told (le := fun a b => a.grownBy b none) [isV _, isV _, isV _, isV _, isV _, isV _, isV _, isV _, isV _, isV _, isV _, isV _, isV _, isV _, isV _, isV _, isV _, isV _, isV _, isV _, isV _, isV _, isV _, isV _, isV _, isV _, isV _, isV _, isV _, isV _, isV _, isV _, isV _, isV _, isV _, isV _, isV _, isV _, isV _, isV _, isV _, isV _, isV _]
            case hn => rfl
            case hm => kernel_rfl
            case hB => kernel_rfl
            case ht => exact fun _ _ _ h k => gb_none h k
            case hw => exact gb_drew (gb_refl _ _)
            -- 0: more.go:19 move
            apply told_is
            · intro W f hW hE h0 K hK
              have e10 := h0 10 (by kernel_rfl)
              conv at e10 => rhs; whnf
              clear hE h0
              refine yes_of (want_free rfl) ?_
              go_simp; exact hK _ _ (gb_refl _ _) rfl
            -- 1: more.go:19 move
            apply told_is
            · intro W f hW hE h0 K hK
              have e11 := h0 11 (by kernel_rfl)
              conv at e11 => rhs; whnf
              clear hE h0
              refine yes_of (want_free rfl) ?_
              go_simp; exact hK _ _ (gb_refl _ _) rfl
            -- 2: more.go:19 indexAddr
            apply told_is
            · intro W f hW hE h0 K hK
              have e40 : f 40 = _ := hE 1 40 _ rfl (by kernel_rfl)
              have e41 : f 41 = _ := hE 0 41 _ rfl (by kernel_rfl)
              clear hE h0
              refine yes_of (want_free rfl) ?_
              have b0 := HB0.out
              go_simp; exact hK _ _ (gb_refl _ _) rfl
            -- 3: more.go:19 fieldAddr
            apply told_is
            · intro W f hW hE h0 K hK
              have e42 : f 42 = _ := hE 0 42 _ rfl (by kernel_rfl)
              clear hE h0
              refine yes_of (want_free rfl) ?_
              go_simp; exact hK _ _ (gb_refl _ _) rfl
            -- 4: more.go:19 load
            apply told_is
            · intro W f hW hE h0 K hK
              have e43 : f 43 = _ := hE 0 43 _ rfl (by kernel_rfl)
              clear hE h0
              refine yes_of (want_free rfl) ?_
              obtain ⟨q0, q1, q2, q3, q4, q5⟩ := HX.out W hW
              go_simp; exact hK _ _ (gb_refl _ _) rfl
            -- 5: more.go:19 move
            apply told_is
            · intro W f hW hE h0 K hK
              have e9 := h0 9 (by kernel_rfl)
              conv at e9 => rhs; whnf
              clear hE h0
              refine yes_of (want_free rfl) ?_
              go_simp; exact hK _ _ (gb_refl _ _) rfl
            -- 6: more.go:19 binOp
            apply told_is
            · intro W f hW hE h0 K hK
              have e44 : f 44 = _ := hE 1 44 _ rfl (by kernel_rfl)
              have e45 : f 45 = _ := hE 0 45 _ rfl (by kernel_rfl)
              clear hE h0
              refine yes_of (want_free rfl) ?_
              go_simp; exact hK _ _ (gb_refl _ _) rfl
            -- 7: more.go:19 move
            apply told_is
            · intro W f hW hE h0 K hK
              have e46 : f 46 = _ := hE 0 46 _ rfl (by kernel_rfl)
              clear hE h0
              refine yes_of (want_free rfl) ?_
              go_simp; exact hK _ _ (gb_refl _ _) rfl
            -- 8: more.go:19 move
            apply told_is
            · intro W f hW hE h0 K hK
              have e10 := h0 10 (by kernel_rfl)
              conv at e10 => rhs; whnf
              have e47 : f 47 = _ := hE 0 47 _ rfl (by kernel_rfl)
              clear hE h0
              refine yes_of (want_yes rfl rfl e47) ?_
              go_simp; exact hK _ _ (gb_refl _ _) rfl
            -- 9: more.go:19 move
            apply told_is
            · intro W f hW hE h0 K hK
              have e11 := h0 11 (by kernel_rfl)
              conv at e11 => rhs; whnf
              have e47 : f 47 = _ := hE 1 47 _ rfl (by kernel_rfl)
              clear hE h0
              refine yes_of (want_yes rfl rfl e47) ?_
              go_simp; exact hK _ _ (gb_refl _ _) rfl
            -- 10: more.go:19 indexAddr
            apply told_is
            · intro W f hW hE h0 K hK
              have e48 : f 48 = _ := hE 1 48 _ rfl (by kernel_rfl)
              have e49 : f 49 = _ := hE 0 49 _ rfl (by kernel_rfl)
              have e47 : f 47 = _ := hE 2 47 _ rfl (by kernel_rfl)
              clear hE h0
              refine yes_of (want_yes rfl rfl e47) ?_
              have b0 := HB0.out
              go_simp; exact hK _ _ (gb_refl _ _) rfl
            -- 11: more.go:19 fieldAddr
            apply told_is
            · intro W f hW hE h0 K hK
              have e50 : f 50 = _ := hE 0 50 _ rfl (by kernel_rfl)
              have e47 : f 47 = _ := hE 3 47 _ rfl (by kernel_rfl)
              clear hE h0
              refine yes_of (want_yes rfl rfl e47) ?_
              go_simp; exact hK _ _ (gb_refl _ _) rfl
            -- 12: more.go:19 load
            apply told_is
            · intro W f hW hE h0 K hK
              have e51 : f 51 = _ := hE 0 51 _ rfl (by kernel_rfl)
              have e47 : f 47 = _ := hE 4 47 _ rfl (by kernel_rfl)
              clear hE h0
              refine yes_of (want_yes rfl rfl e47) ?_
              obtain ⟨q0, q1, q2, q3, q4, q5⟩ := HX.out W hW
              go_simp; exact hK _ _ (gb_refl _ _) rfl
            -- 13: more.go:19 move
            apply told_is
            · intro W f hW hE h0 K hK
              have e6 := h0 6 (by kernel_rfl)
              conv at e6 => rhs; whnf
              have e47 : f 47 = _ := hE 5 47 _ rfl (by kernel_rfl)
              clear hE h0
              refine yes_of (want_yes rfl rfl e47) ?_
              go_simp; exact hK _ _ (gb_refl _ _) rfl
            -- 14: more.go:19 binOp
            apply told_is
            · intro W f hW hE h0 K hK
              have e52 : f 52 = _ := hE 1 52 _ rfl (by kernel_rfl)
              have e53 : f 53 = _ := hE 0 53 _ rfl (by kernel_rfl)
              have e47 : f 47 = _ := hE 6 47 _ rfl (by kernel_rfl)
              clear hE h0
              refine yes_of (want_yes rfl rfl e47) ?_
              go_simp; exact hK _ _ (gb_refl _ _) rfl
            -- 15: more.go:19 pick
            apply told_is
            · intro W f hW hE h0 K hK
              have e47 : f 47 = _ := hE 7 47 _ rfl (by kernel_rfl)
              have e54 : f 54 = _ := hE 0 54 _ rfl (by kernel_rfl)
              clear hE h0
              refine yes_of (want_free rfl) ?_
              go_simp; exact hK _ _ (gb_refl _ _) rfl
            -- 16: more.go:19 move
            apply told_is
            · intro W f hW hE h0 K hK
              have e55 : f 55 = _ := hE 0 55 _ rfl (by kernel_rfl)
              clear hE h0
              refine yes_of (want_free rfl) ?_
              go_simp; exact hK _ _ (gb_refl _ _) rfl
            -- 17: more.go:19 move
            apply told_is
            · intro W f hW hE h0 K hK
              have e10 := h0 10 (by kernel_rfl)
              conv at e10 => rhs; whnf
              have e56 : f 56 = _ := hE 0 56 _ rfl (by kernel_rfl)
              clear hE h0
              refine yes_of (want_yes rfl rfl e56) ?_
              go_simp; exact hK _ _ (gb_refl _ _) rfl
            -- 18: more.go:19 move
            apply told_is
            · intro W f hW hE h0 K hK
              have e11 := h0 11 (by kernel_rfl)
              conv at e11 => rhs; whnf
              have e56 : f 56 = _ := hE 1 56 _ rfl (by kernel_rfl)
              clear hE h0
              refine yes_of (want_yes rfl rfl e56) ?_
              go_simp; exact hK _ _ (gb_refl _ _) rfl
            -- 19: more.go:19 indexAddr
            apply told_is
            · intro W f hW hE h0 K hK
              have e57 : f 57 = _ := hE 1 57 _ rfl (by kernel_rfl)
              have e58 : f 58 = _ := hE 0 58 _ rfl (by kernel_rfl)
              have e56 : f 56 = _ := hE 2 56 _ rfl (by kernel_rfl)
              clear hE h0
              refine yes_of (want_yes rfl rfl e56) ?_
              have b0 := HB0.out
              go_simp; exact hK _ _ (gb_refl _ _) rfl
            -- 20: more.go:19 load
            apply told_is
            · intro W f hW hE h0 K hK
              have e59 : f 59 = _ := hE 0 59 _ rfl (by kernel_rfl)
              have e56 : f 56 = _ := hE 3 56 _ rfl (by kernel_rfl)
              clear hE h0
              refine yes_of (want_yes rfl rfl e56) ?_
              obtain ⟨q0, q1, q2, q3, q4, q5⟩ := HX.out W hW
              go_simp; exact hK _ _ (gb_refl _ _) rfl
            -- 21: more.go:19 call
            apply told_is
            · intro W f hW hE h0 K hK
              have e60 : f 60 = _ := hE 0 60 _ rfl (by kernel_rfl)
              have e56 : f 56 = _ := hE 4 56 _ rfl (by kernel_rfl)
              clear hE h0
              refine yes_of (want_yes rfl rfl e56) ?_
              go_simp
              refine (pRight_any ⟨xd, xn, xk, xkd, xi, xv⟩ W).mono ?_
              rintro e w1' ⟨he, g⟩; rw [HR.out] at he; subst he
              exact ⟨_, rfl, hK _ _ g rfl⟩
            -- 22: more.go:19 unOp
            apply told_is
            · intro W f hW hE h0 K hK
              have e61 : f 61 = _ := hE 0 61 _ rfl (by kernel_rfl)
              have e56 : f 56 = _ := hE 5 56 _ rfl (by kernel_rfl)
              clear hE h0
              refine yes_of (want_yes rfl rfl e56) ?_
              go_simp; exact hK _ _ (gb_refl _ _) rfl
            -- 23: more.go:19 pick
            apply told_is
            · intro W f hW hE h0 K hK
              have e56 : f 56 = _ := hE 6 56 _ rfl (by kernel_rfl)
              have e62 : f 62 = _ := hE 0 62 _ rfl (by kernel_rfl)
              clear hE h0
              refine yes_of (want_free rfl) ?_
              go_simp; exact hK _ _ (gb_refl _ _) rfl
            -- 24: more.go:19 move
            apply told_is
            · intro W f hW hE h0 K hK
              have e63 : f 63 = _ := hE 0 63 _ rfl (by kernel_rfl)
              clear hE h0
              refine yes_of (want_free rfl) ?_
              go_simp; exact hK _ _ (gb_refl _ _) rfl
            -- 25: more.go:19 move
            apply told_is
            · intro W f hW hE h0 K hK
              have e11 := h0 11 (by kernel_rfl)
              conv at e11 => rhs; whnf
              have e64 : f 64 = _ := hE 0 64 _ rfl (by kernel_rfl)
              clear hE h0
              refine yes_of (want_yes rfl rfl e64) ?_
              go_simp; exact hK _ _ (gb_refl _ _) rfl
            -- 26: more.go:19 binOp
            apply told_is
            · intro W f hW hE h0 K hK
              have e65 : f 65 = _ := hE 0 65 _ rfl (by kernel_rfl)
              have e64 : f 64 = _ := hE 1 64 _ rfl (by kernel_rfl)
              clear hE h0
              refine yes_of (want_yes rfl rfl e64) ?_
              obtain ⟨p0, p0'⟩ := Hp0.out
              go_simp; exact hK _ _ (gb_refl _ _) rfl
            -- 27: more.go:19 move
            apply told_is
            · intro W f hW hE h0 K hK
              have e66 : f 66 = _ := hE 0 66 _ rfl (by kernel_rfl)
              have e64 : f 64 = _ := hE 2 64 _ rfl (by kernel_rfl)
              clear hE h0
              refine yes_of (want_yes rfl rfl e64) ?_
              go_simp; exact hK _ _ (gb_refl _ _) rfl
            -- 28: more.go:19 move
            apply told_is
            · intro W f hW hE h0 K hK
              have e10 := h0 10 (by kernel_rfl)
              conv at e10 => rhs; whnf
              have e67 : f 67 = _ := hE 0 67 _ rfl (by kernel_rfl)
              clear hE h0
              refine yes_of (want_yes rfl rfl e67) ?_
              go_simp; exact hK _ _ (gb_refl _ _) rfl
            -- 29: more.go:19 move
            apply told_is
            · intro W f hW hE h0 K hK
              have e11 := h0 11 (by kernel_rfl)
              conv at e11 => rhs; whnf
              have e67 : f 67 = _ := hE 1 67 _ rfl (by kernel_rfl)
              clear hE h0
              refine yes_of (want_yes rfl rfl e67) ?_
              go_simp; exact hK _ _ (gb_refl _ _) rfl
            -- 30: more.go:19 binOp
            apply told_is
            · intro W f hW hE h0 K hK
              have e69 : f 69 = _ := hE 0 69 _ rfl (by kernel_rfl)
              have e67 : f 67 = _ := hE 2 67 _ rfl (by kernel_rfl)
              clear hE h0
              refine yes_of (want_yes rfl rfl e67) ?_
              have p1 := Hsub.out
              go_simp; exact hK _ _ (gb_refl _ _) rfl
            -- 31: more.go:19 indexAddr
            apply told_is
            · intro W f hW hE h0 K hK
              have e68 : f 68 = _ := hE 2 68 _ rfl (by kernel_rfl)
              have e70 : f 70 = _ := hE 0 70 _ rfl (by kernel_rfl)
              have e67 : f 67 = _ := hE 3 67 _ rfl (by kernel_rfl)
              clear hE h0
              refine yes_of (want_yes rfl rfl e67) ?_
              have b0 := HB1.out
              go_simp; exact hK _ _ (gb_refl _ _) rfl
            -- 32: more.go:19 fieldAddr
            apply told_is
            · intro W f hW hE h0 K hK
              have e71 : f 71 = _ := hE 0 71 _ rfl (by kernel_rfl)
              have e67 : f 67 = _ := hE 4 67 _ rfl (by kernel_rfl)
              clear hE h0
              refine yes_of (want_yes rfl rfl e67) ?_
              go_simp; exact hK _ _ (gb_refl _ _) rfl
            -- 33: more.go:19 load
            apply told_is
            · intro W f hW hE h0 K hK
              have e72 : f 72 = _ := hE 0 72 _ rfl (by kernel_rfl)
              have e67 : f 67 = _ := hE 5 67 _ rfl (by kernel_rfl)
              clear hE h0
              refine yes_of (want_yes rfl rfl e67) ?_
              obtain ⟨q0, q1, q2, q3, q4, q5⟩ := HZ.out W hW
              go_simp; exact hK _ _ (gb_refl _ _) rfl
            -- 34: more.go:19 move
            apply told_is
            · intro W f hW hE h0 K hK
              have e10 := h0 10 (by kernel_rfl)
              conv at e10 => rhs; whnf
              have e67 : f 67 = _ := hE 6 67 _ rfl (by kernel_rfl)
              clear hE h0
              refine yes_of (want_yes rfl rfl e67) ?_
              go_simp; exact hK _ _ (gb_refl _ _) rfl
            -- 35: more.go:19 move
            apply told_is
            · intro W f hW hE h0 K hK
              have e11 := h0 11 (by kernel_rfl)
              conv at e11 => rhs; whnf
              have e67 : f 67 = _ := hE 7 67 _ rfl (by kernel_rfl)
              clear hE h0
              refine yes_of (want_yes rfl rfl e67) ?_
              go_simp; exact hK _ _ (gb_refl _ _) rfl
            -- 36: more.go:19 indexAddr
            apply told_is
            · intro W f hW hE h0 K hK
              have e74 : f 74 = _ := hE 1 74 _ rfl (by kernel_rfl)
              have e75 : f 75 = _ := hE 0 75 _ rfl (by kernel_rfl)
              have e67 : f 67 = _ := hE 8 67 _ rfl (by kernel_rfl)
              clear hE h0
              refine yes_of (want_yes rfl rfl e67) ?_
              have b0 := HB0.out
              go_simp; exact hK _ _ (gb_refl _ _) rfl
            -- 37: more.go:19 fieldAddr
            apply told_is
            · intro W f hW hE h0 K hK
              have e76 : f 76 = _ := hE 0 76 _ rfl (by kernel_rfl)
              have e67 : f 67 = _ := hE 9 67 _ rfl (by kernel_rfl)
              clear hE h0
              refine yes_of (want_yes rfl rfl e67) ?_
              go_simp; exact hK _ _ (gb_refl _ _) rfl
            -- 38: more.go:19 load
            apply told_is
            · intro W f hW hE h0 K hK
              have e77 : f 77 = _ := hE 0 77 _ rfl (by kernel_rfl)
              have e67 : f 67 = _ := hE 10 67 _ rfl (by kernel_rfl)
              clear hE h0
              refine yes_of (want_yes rfl rfl e67) ?_
              obtain ⟨q0, q1, q2, q3, q4, q5⟩ := HX.out W hW
              go_simp; exact hK _ _ (gb_refl _ _) rfl
            -- 39: more.go:19 call
            apply told_is
            · intro W f hW hE h0 K hK
              have e73 : f 73 = _ := hE 5 73 _ rfl (by kernel_rfl)
              have e78 : f 78 = _ := hE 0 78 _ rfl (by kernel_rfl)
              have e67 : f 67 = _ := hE 11 67 _ rfl (by kernel_rfl)
              clear hE h0
              refine yes_of (want_yes rfl rfl e67) ?_
              go_simp
              refine (pCmp_any _ _ _ _ _).mono ?_
              rintro e w1' ⟨he, g⟩; rw [HC.out] at he; subst he
              exact ⟨_, rfl, hK _ _ g.gb rfl⟩
            -- 40: more.go:19 binOp
            apply told_is
            · intro W f hW hE h0 K hK
              have e79 : f 79 = _ := hE 0 79 _ rfl (by kernel_rfl)
              have e67 : f 67 = _ := hE 12 67 _ rfl (by kernel_rfl)
              clear hE h0
              refine yes_of (want_yes rfl rfl e67) ?_
              go_simp; exact hK _ _ (gb_refl _ _) rfl
            -- 41: more.go:19 pick
            apply told_is
            · intro W f hW hE h0 K hK
              have e67 : f 67 = _ := hE 13 67 _ rfl (by kernel_rfl)
              have e80 : f 80 = _ := hE 0 80 _ rfl (by kernel_rfl)
              have e64 : f 64 = _ := hE 16 64 _ rfl (by kernel_rfl)
              clear hE h0
              refine yes_of (want_yes rfl rfl e64) ?_
              go_simp; exact hK _ _ (gb_refl _ _) rfl
            -- 42: more.go:19 pick
            apply told_is
            · intro W f hW hE h0 K hK
              have e64 : f 64 = _ := hE 17 64 _ rfl (by kernel_rfl)
              have e81 : f 81 = _ := hE 0 81 _ rfl (by kernel_rfl)
              clear hE h0
              refine yes_of (want_free rfl) ?_
              go_simp; exact hK _ _ (gb_refl _ _) rfl
            intro W f hW hA
            simp only [lexIn, Act.put, List.setIfInBounds_toArray, List.set_cons_zero, List.set_cons_succ]
            have e82 : f 82 = _ := hA 0 (some 82) _ rfl
            rw [e82]
            clear hA
            have t7 : IntKind.i64.wrap ((i : Int) + 1) = ((i + 1 : Nat) : Int) := by rw [IntKind.wrap_i64]; have := Hlt.out; have := HLb.out; omega
            go_wp2_with fail
            go_roundw
            case rel => exact ⟨i + 1, by have := Hlt.out; omega, rfl, gb_none Hg5.out hW⟩
            case measure => simp [intOf]; have := Hlt.out; omega
        · have hiL : i = L := by omega
          subst hiL
          have d1 : decide (i < i) = false := by simp
          have d2 : decide ((i : Int) < (i : Int)) = false := by simp
          have t4 : IntKind.i64.wrap (kd + 1) = kd2 := by have := Hkd2.out; have := Hkd.out; have := Hqlt.out; rw [IntKind.wrap_i64]; omega
          have Hg6 := Lib.hid (gb_none Hg3.out hg5)
          clear hlt hi hg5
          go_wp2_with fail
          go_roundw
          case rel => exact ⟨q + 1, kd2, by have := Hqlt.out; omega, rfl, by have := Hkd2.out; have := Hkd.out; push_cast; omega, by rw [Hcn2.out], Hg6.out⟩
          case measure => simp [intOf]; have := Hkd2.out; have := Hkd.out; have := Hqlt.out; omega
    · have hq3' : q = 3 := by omega
      subst hq3'
      have d1 : decide (kd ≤ 3) = false := decide_eq_false (by omega)
      have hsum : La = cn := by rw [← HLa.out, ← hcn]; exact cnt_all (fun f hf => (HMays.out.2.2.1 f hf).1) kk
      subst hsum
      have Hf4 : Hid (findL s.facts kk 4 = []) := find_four (fun f hf => (HMays.out.2.2.1 f hf).1) kk
      have Hfn : Hid (findL s.facts ⟨#[110, 111, 110, 101]⟩ 0 = []) := find_other HKeys.out (by decide) 0
      clear hcn hg hy hq hq3 hkd
      go_wp2_with (go_at_call 15; first
        | (with_reducible refine (pFind_any A B n c m d s kk 4 wr Hy.out (by have := Hnm.out; omega)).mono ?_); rintro e w5 ⟨A5, c5, he, hf5, hl5, g5⟩; rw [Hf4.out] at he; subst he; obtain ⟨v0, v1, hv⟩ := HK2.out w5 (gb_none Hg.out g5); have Hv := Lib.hid hv; have Hg5 := Lib.hid (gb_none Hg.out g5); clear hv g5 hf5 hl5
        | refine (pFind_any A B n c m d s ⟨#[110, 111, 110, 101]⟩ 0 w5 Hv.out (by have := Hnm.out; omega)).mono ?_; rintro e w6 ⟨A6, c6, he, hf6, hl6, g6⟩; rw [Hfn.out] at he; subst he; have Hg6 := Lib.hid (gb_none Hg5.out g6); clear g6 hf6 hl6)
      go_wp2_with (go_at_call 19; refine (awake8_any _).mono ?_; rintro e w7 ⟨rfl, g7⟩)
      go_ret
      exact ⟨rfl, gb_below (gb_none HG2.out (gb_none Hg6.out g7)) (Nat.le_refl _)⟩

set_option maxRecDepth 100000 in
theorem lifted (os : Os) (started : os.Started) (H : Type) (enc : TypeId × Value → H) :
    ReturnsInHanded {} Try.checked os 4 .any (Rows.factsFoundSpec.pre6 enc Try.prog Try.f4 Rows.factsFoundRow.domain false) (Rows.factsFoundSpec.post enc Try.prog Try.f4 false true false false) := by
  refine returnsInHanded_of_change (C := Try.checked) own started (by kernel_rfl) Try.func4
    (ChangeSpec.witness6 (enc := enc) (C := Try.checked) false ⟨#[], #[.slice none 0 0, .int .u8 0], []⟩ 8 (by kernel_rfl) (by kernel_rfl) (by kernel_rfl) (by kernel_rfl)) ?_
  intro W base args ds gs before hval0 hW hcnd _
  have hval : ∀ (j : Nat) t v, Try.f4.params[j]? = some t → args[j]? = some v → Value.okWide Try.prog W .any base t v := hval0
  have hW' := hW
  obtain ⟨p, q, hA0, hV, rfl, hfz, hnd⟩ := hW
  have hA : DataW.TrodAll enc Try.prog W 0 (fun _ => true) true Try.f4.params.toList args.toList ds p := hA0
  rw [Try.params4] at hA hval
  obtain ⟨v0, vs0, d0, ds0, p0, q0, hargs, rfl, rfl, h0, r0⟩ := trodAll_cons hA
  obtain ⟨v1, vs1, d1, ds1, p1, q1, rfl, rfl, rfl, h1, r1⟩ := trodAll_cons r0
  obtain ⟨rfl, rfl, rfl⟩ := trodAll_nil r1
  obtain rfl : args = #[v0, v1] := by cases args; simp_all
  obtain ⟨rfl, rfl⟩ := trodVars_none hV
  have k0 := h0
  have lt0 : ∀ x ∈ p0, x.block < W.heap.size := by obtain ⟨m, hm⟩ := k0; exact DataW.trod_lt m _ _ _ hm
  obtain ⟨a0, len0, cap0, rfl⟩ := okWide_slice Try.underlying22 (hval 0 22 v0 rfl rfl)
  obtain ⟨z0, w0⟩ : ∃ zs, IsRow .u8 W a0 len0 cap0 zs := by
    obtain ⟨fuel, hf⟩ := h0
    rcases open_ints Try.underlying22 Try.underlying5 (by kernel_rfl) hf with ⟨hcs, _⟩ | ⟨x, l, c, zs, hcs, _, hl, hm, hz, _, hcell, hwz⟩
    · simp [Value.cells] at hcs
      obtain ⟨rfl, rfl, rfl⟩ := hcs
      exact ⟨[], .inl ⟨rfl, rfl, rfl, rfl⟩⟩
    · simp [Value.cells] at hcs
      obtain ⟨rfl, rfl, rfl⟩ := hcs
      exact ⟨zs, .inr ⟨_, rfl, hl, hm, by simpa using hz, hcell, hwz⟩⟩
  obtain ⟨a1, rfl, rfl, rfl, w1⟩ := open_int Try.underlying5 (hval 1 5 v1 rfl rfl) h1
  clear hA0 hval0
  refine (walk a0 len0 cap0 z0 a1 W w0 w1).mono fun e W' ⟨he, bel⟩ => ?_
  subst he
  exact ⟨_, rfl, _, _, _, [], _, [], hW', trodAll_mk1 (shut_bool Try.underlying4 _), (trodAll_cons_mk (Below.trod laidOut (by kernel_rfl) (of_decide_eq_true (by kernel_rfl)) k0 bel lt0) (trodAll_cons_mk (shut_int Try.underlying5 w1) trodAll_mk0)), rfl, bel.frame _, fun h => by cases h⟩

theorem over : Rows.factsFoundRow.holds Try.pinned (OpenSpec.ofChange Rows.factsFoundSpec) :=
  OpenClaim.holds_of_wide 4 Try.f4 rfl rfl rfl rfl rfl rfl rfl ⟨rfl, rfl, rfl, rfl, rfl⟩ rfl rfl rfl rfl rfl (by kernel_rfl) Try.func4 (by kernel_rfl)
    (of_decide_eq_true (by kernel_rfl)) (by unfold Func.isWrapper; first | (rw [if_pos (by decide +kernel)]; kernel_rfl) | (rw [if_neg (by decide +kernel)]; exact ⟨rfl, rfl⟩))
    (fun os started H enc _ => lifted os started H enc)

theorem proved : Rows.FactsFoundSaid := over
#print axioms proved
end Go.Proofs.Ytkjjgbcbgjgjeaa.factsFound
