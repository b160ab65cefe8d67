/- tail.check, tail.take: what goes on with a chain. Written by gen_mbchk.py. -/
import Derived.Test.YtdlafgkiddhejaaGreatDoorMbPut
import Derived.Test.YtdlafgkiddhejaaGreatDoorMbErr
import Derived.Test.YtdlafgkiddhejaaGreatDoorToldM
import Derived.Deep.DeepCutAuto
set_option linter.unusedVariables false
namespace Go.Proofs.YtdlafgkiddhejaaGreatDoor.Mb
open Go Go.RowKit Go.Proofs.YtdlafgkiddhejaaGreatDoor.Mm Go.Proofs.YtdlafgkiddhejaaGreatDoor.Td Go.Proofs.YtdlafgkiddhejaaGreatDoor.Vw Go.Proofs.YtdlafgkiddhejaaGreatDoor.Dt

open Go.Proofs.YtdlafgkiddhejaaGreatDoor.Me
attribute [local go_sem] Td.upon_value Td.upon_skip Td.upon_enter Td.upon_row Td.look_tmp Td.look_const Td.look_func Td.look_global
/-- What a tail holds behind these records. -/
noncomputable def tailCs (l : List Rc) : Array Value := #[.int .i64 ((l).length : Int), .string (lastH l), .bool (memL l 0), .bool (memL l 1), .bool (memL l 2), .bool (memL l 3), .bool (memL l 4), .bool (memL l 5), .bool (memL l 6), .bool (memL l 7)]
theorem tail_at {w : World} {b d : Nat} {l : List Rc} (h : Row w b 74 (tailCs l)) (hd : d < 8) : w.cell? ⟨b, 2 + d, none⟩ = some (.bool (memL l (d : Int))) := by
  refine h.at_ ?_
  match d, hd with
  | 0, _ => rfl
  | 1, _ => rfl
  | 2, _ => rfl
  | 3, _ => rfl
  | 4, _ => rfl
  | 5, _ => rfl
  | 6, _ => rfl
  | 7, _ => rfl
theorem tail_next {l : List Rc} {r : Rc} {d : Nat} (hd : d < 8) (hr : r.dev = (d : Int)) (hs : r.seq = (l.length : Int) + 1) : (((tailCs l).setIfInBounds 0 (.int .i64 r.seq)).setIfInBounds 1 (.string (hashB r))).setIfInBounds (2 + d) (.bool (decide (r.kind = 1))) = tailCs (l ++ [r]) := by
  have e0 : (((l ++ [r]).length : Nat) : Int) = r.seq := by rw [List.length_append, hs]; rfl
  have e1 : lastH (l ++ [r]) = hashB r := lastH_snoc l r
  unfold tailCs
  rw [e0, e1]
  match d, hd, hr with
  | 0, _, hr =>
    have hr : r.dev = 0 := hr
    rw [show memL (l ++ [r]) 0 = decide (r.kind = 1) from by rw [memL_snoc, hr]; rfl]
    rw [show memL (l ++ [r]) 1 = memL l 1 from by rw [memL_snoc, hr]; rfl]
    rw [show memL (l ++ [r]) 2 = memL l 2 from by rw [memL_snoc, hr]; rfl]
    rw [show memL (l ++ [r]) 3 = memL l 3 from by rw [memL_snoc, hr]; rfl]
    rw [show memL (l ++ [r]) 4 = memL l 4 from by rw [memL_snoc, hr]; rfl]
    rw [show memL (l ++ [r]) 5 = memL l 5 from by rw [memL_snoc, hr]; rfl]
    rw [show memL (l ++ [r]) 6 = memL l 6 from by rw [memL_snoc, hr]; rfl]
    rw [show memL (l ++ [r]) 7 = memL l 7 from by rw [memL_snoc, hr]; rfl]
    rfl
  | 1, _, hr =>
    have hr : r.dev = 1 := hr
    rw [show memL (l ++ [r]) 0 = memL l 0 from by rw [memL_snoc, hr]; rfl]
    rw [show memL (l ++ [r]) 1 = decide (r.kind = 1) from by rw [memL_snoc, hr]; rfl]
    rw [show memL (l ++ [r]) 2 = memL l 2 from by rw [memL_snoc, hr]; rfl]
    rw [show memL (l ++ [r]) 3 = memL l 3 from by rw [memL_snoc, hr]; rfl]
    rw [show memL (l ++ [r]) 4 = memL l 4 from by rw [memL_snoc, hr]; rfl]
    rw [show memL (l ++ [r]) 5 = memL l 5 from by rw [memL_snoc, hr]; rfl]
    rw [show memL (l ++ [r]) 6 = memL l 6 from by rw [memL_snoc, hr]; rfl]
    rw [show memL (l ++ [r]) 7 = memL l 7 from by rw [memL_snoc, hr]; rfl]
    rfl
  | 2, _, hr =>
    have hr : r.dev = 2 := hr
    rw [show memL (l ++ [r]) 0 = memL l 0 from by rw [memL_snoc, hr]; rfl]
    rw [show memL (l ++ [r]) 1 = memL l 1 from by rw [memL_snoc, hr]; rfl]
    rw [show memL (l ++ [r]) 2 = decide (r.kind = 1) from by rw [memL_snoc, hr]; rfl]
    rw [show memL (l ++ [r]) 3 = memL l 3 from by rw [memL_snoc, hr]; rfl]
    rw [show memL (l ++ [r]) 4 = memL l 4 from by rw [memL_snoc, hr]; rfl]
    rw [show memL (l ++ [r]) 5 = memL l 5 from by rw [memL_snoc, hr]; rfl]
    rw [show memL (l ++ [r]) 6 = memL l 6 from by rw [memL_snoc, hr]; rfl]
    rw [show memL (l ++ [r]) 7 = memL l 7 from by rw [memL_snoc, hr]; rfl]
    rfl
  | 3, _, hr =>
    have hr : r.dev = 3 := hr
    rw [show memL (l ++ [r]) 0 = memL l 0 from by rw [memL_snoc, hr]; rfl]
    rw [show memL (l ++ [r]) 1 = memL l 1 from by rw [memL_snoc, hr]; rfl]
    rw [show memL (l ++ [r]) 2 = memL l 2 from by rw [memL_snoc, hr]; rfl]
    rw [show memL (l ++ [r]) 3 = decide (r.kind = 1) from by rw [memL_snoc, hr]; rfl]
    rw [show memL (l ++ [r]) 4 = memL l 4 from by rw [memL_snoc, hr]; rfl]
    rw [show memL (l ++ [r]) 5 = memL l 5 from by rw [memL_snoc, hr]; rfl]
    rw [show memL (l ++ [r]) 6 = memL l 6 from by rw [memL_snoc, hr]; rfl]
    rw [show memL (l ++ [r]) 7 = memL l 7 from by rw [memL_snoc, hr]; rfl]
    rfl
  | 4, _, hr =>
    have hr : r.dev = 4 := hr
    rw [show memL (l ++ [r]) 0 = memL l 0 from by rw [memL_snoc, hr]; rfl]
    rw [show memL (l ++ [r]) 1 = memL l 1 from by rw [memL_snoc, hr]; rfl]
    rw [show memL (l ++ [r]) 2 = memL l 2 from by rw [memL_snoc, hr]; rfl]
    rw [show memL (l ++ [r]) 3 = memL l 3 from by rw [memL_snoc, hr]; rfl]
    rw [show memL (l ++ [r]) 4 = decide (r.kind = 1) from by rw [memL_snoc, hr]; rfl]
    rw [show memL (l ++ [r]) 5 = memL l 5 from by rw [memL_snoc, hr]; rfl]
    rw [show memL (l ++ [r]) 6 = memL l 6 from by rw [memL_snoc, hr]; rfl]
    rw [show memL (l ++ [r]) 7 = memL l 7 from by rw [memL_snoc, hr]; rfl]
    rfl
  | 5, _, hr =>
    have hr : r.dev = 5 := hr
    rw [show memL (l ++ [r]) 0 = memL l 0 from by rw [memL_snoc, hr]; rfl]
    rw [show memL (l ++ [r]) 1 = memL l 1 from by rw [memL_snoc, hr]; rfl]
    rw [show memL (l ++ [r]) 2 = memL l 2 from by rw [memL_snoc, hr]; rfl]
    rw [show memL (l ++ [r]) 3 = memL l 3 from by rw [memL_snoc, hr]; rfl]
    rw [show memL (l ++ [r]) 4 = memL l 4 from by rw [memL_snoc, hr]; rfl]
    rw [show memL (l ++ [r]) 5 = decide (r.kind = 1) from by rw [memL_snoc, hr]; rfl]
    rw [show memL (l ++ [r]) 6 = memL l 6 from by rw [memL_snoc, hr]; rfl]
    rw [show memL (l ++ [r]) 7 = memL l 7 from by rw [memL_snoc, hr]; rfl]
    rfl
  | 6, _, hr =>
    have hr : r.dev = 6 := hr
    rw [show memL (l ++ [r]) 0 = memL l 0 from by rw [memL_snoc, hr]; rfl]
    rw [show memL (l ++ [r]) 1 = memL l 1 from by rw [memL_snoc, hr]; rfl]
    rw [show memL (l ++ [r]) 2 = memL l 2 from by rw [memL_snoc, hr]; rfl]
    rw [show memL (l ++ [r]) 3 = memL l 3 from by rw [memL_snoc, hr]; rfl]
    rw [show memL (l ++ [r]) 4 = memL l 4 from by rw [memL_snoc, hr]; rfl]
    rw [show memL (l ++ [r]) 5 = memL l 5 from by rw [memL_snoc, hr]; rfl]
    rw [show memL (l ++ [r]) 6 = decide (r.kind = 1) from by rw [memL_snoc, hr]; rfl]
    rw [show memL (l ++ [r]) 7 = memL l 7 from by rw [memL_snoc, hr]; rfl]
    rfl
  | 7, _, hr =>
    have hr : r.dev = 7 := hr
    rw [show memL (l ++ [r]) 0 = memL l 0 from by rw [memL_snoc, hr]; rfl]
    rw [show memL (l ++ [r]) 1 = memL l 1 from by rw [memL_snoc, hr]; rfl]
    rw [show memL (l ++ [r]) 2 = memL l 2 from by rw [memL_snoc, hr]; rfl]
    rw [show memL (l ++ [r]) 3 = memL l 3 from by rw [memL_snoc, hr]; rfl]
    rw [show memL (l ++ [r]) 4 = memL l 4 from by rw [memL_snoc, hr]; rfl]
    rw [show memL (l ++ [r]) 5 = memL l 5 from by rw [memL_snoc, hr]; rfl]
    rw [show memL (l ++ [r]) 6 = memL l 6 from by rw [memL_snoc, hr]; rfl]
    rw [show memL (l ++ [r]) 7 = decide (r.kind = 1) from by rw [memL_snoc, hr]; rfl]
    rfl
/-- Who may come, or go, behind these. -/
def CheckT (l : List Rc) (kind dev : Int) : Prop := (l.length = 0 → kind = 1 ∧ dev = 0) ∧ (kind = 1 → memL l dev = false) ∧ (kind = 2 → memL l dev = true ∧ dev ≠ 0)
/-- An error, made by errors.New. -/
def Err0 (w : World) (v : Value) : Prop := ∃ (a : Addr) (c : Array Value) (t : TypeId), w.heap[a.block]? = some (.cells c t (0, 0)) ∧ v = .iface 168 (.pointer (some a))
/-- .. or wrapped once. -/
def Err1 (w : World) (v : Value) : Prop := ∃ (a : Addr) (c : Array Value) (t : TypeId), w.heap[a.block]? = some (.cells c t (0, 0)) ∧ (v = .iface 168 (.pointer (some a)) ∨ ∃ x y, v = refV x y a)
theorem Err0.keep {w w' : World} {v : Value} (h : Err0 w v) (k : w.grownBy w' none) : Err0 w' v := by
  obtain ⟨a, c, t, h1, h2⟩ := h
  exact ⟨a, c, t, (k.block _ (Array.getElem?_eq_some_iff.1 h1).1 (by simp)).trans h1, h2⟩
theorem Err1.keep {w w' : World} {v : Value} (h : Err1 w v) (k : w.grownBy w' none) : Err1 w' v := by
  obtain ⟨a, c, t, h1, h2⟩ := h
  exact ⟨a, c, t, (k.block _ (Array.getElem?_eq_some_iff.1 h1).1 (by simp)).trans h1, h2⟩
theorem Err1.iface {w : World} {v : Value} (h : Err1 w v) : ∃ t p, v = .iface t p := by
  obtain ⟨a, c, t, _, rfl | ⟨x, y, rfl⟩⟩ := h
  · exact ⟨_, _, rfl⟩
  · exact ⟨_, _, rfl⟩
theorem Err1.wrap {w : World} {v : Value} (h : Err1 w v) (x : ByteArray) (y : Int) : ErrN w (.iface 71 (.agg #[.string x, .int .i64 y, v])) := by
  obtain ⟨a, c, t, hb, rfl | ⟨x1, y1, rfl⟩⟩ := h
  · exact ⟨a, c, t, hb, .inl ⟨x, y, rfl⟩⟩
  · exact ⟨a, c, t, hb, .inr ⟨x, y, x1, y1, rfl⟩⟩
set_option maxHeartbeats 16000000 in
set_option maxRecDepth 100000 in
theorem check_any (b : Nat) (l : List Rc) (kd : Int) (d : Nat) (hd : d < 8) (hk : kd = 1 ∨ kd = 2) (w : World) (hr : Row w b 74 (tailCs l)) (hE : MErrs w) :
    Calls Tryz.prog 66 #[.pointer (some ⟨b, 0, none⟩), .int .i64 kd, .int .i64 (d : Int)] w fun e w' => ((CheckT l kd (d : Int) ∧ e = .returned .nilIface) ∨ (¬ CheckT l kd (d : Int) ∧ ∃ v, e = .returned v ∧ Err0 w' v)) ∧ w.grownBy w' none := by
  obtain ⟨N, hN⟩ : ∃ N, l.length = N := ⟨_, rfl⟩
  obtain ⟨mb, hmb⟩ : ∃ mb, memL l (d : Int) = mb := ⟨_, rfl⟩
  have Hyd : Hid (∀ W, w.grownBy W none → W.cell? ⟨b, 2 + d, none⟩ = some (.bool mb)) := fun W hW => by rw [← hmb]; exact tail_at (hr.kept hW (by simp)) hd
  have Hy0 : Hid (∀ W, w.grownBy W none → W.cell? ⟨b, 0, none⟩ = some (.int .i64 (N : Int))) := fun W hW => by rw [← hN]; exact (hr.kept hW (by simp)).at_ (i := 0) rfl
  have HNl := Lib.hid hN
  have Hmb := Lib.hid hmb
  have HN0 : Hid (N = 0 → memL l (d : Int) = false) := fun e => by rw [List.length_eq_zero_iff.1 (hN.trans e)]; rfl
  have Hk2 := Lib.hid hk
  have HE := Lib.hid hE
  have bk : (d : Int) < 8 := by omega
  clear hN hmb hr hE hk hd
  go_enter Tryz.func66, Tryz.ntmps66
  go_upto_region 1 with fail
  apply wp_region_told (le := fun a b => a.grownBy b none) [isV _, isV _, isV _, isV _, isV _, isV _, isV _, isV _, isV _, isV _]
  case hn => rfl
  case hm => kernel_rfl
  case hB => kernel_rfl
  case ht => exact fun _ _ _ h k => gb_none h k
  case hw => exact gb_drew (gb_refl _ _)
  -- 0: chain.go:54 move
  apply told_is
  · intro W f hW hE h0 K hK
    have e1 := h0 1 (by kernel_rfl)
    conv at e1 => rhs; whnf
    clear hE h0
    refine yes_of (want_free rfl) ?_
    go_simp; exact hK _ _ (gb_refl _ _) rfl
  -- 1: chain.go:54 binOp
  apply told_is
  · intro W f hW hE h0 K hK
    have e9 : f 9 = _ := hE 0 9 _ rfl (by kernel_rfl)
    clear hE h0
    refine yes_of (want_free rfl) ?_
    go_simp; exact hK _ _ (gb_refl _ _) rfl
  -- 2: chain.go:54 move
  apply told_is
  · intro W f hW hE h0 K hK
    have e0 := h0 0 (by kernel_rfl)
    conv at e0 => rhs; whnf
    clear hE h0
    refine yes_of (want_free rfl) ?_
    go_simp; exact hK _ _ (gb_refl _ _) rfl
  -- 3: chain.go:54 move
  apply told_is
  · intro W f hW hE h0 K hK
    have e2 := h0 2 (by kernel_rfl)
    conv at e2 => rhs; whnf
    clear hE h0
    refine yes_of (want_free rfl) ?_
    go_simp; exact hK _ _ (gb_refl _ _) rfl
  -- 4: chain.go:54 nilCheck
  apply told_is
  · intro W f hW hE h0 K hK
    have e11 : f 11 = _ := hE 1 11 _ rfl (by kernel_rfl)
    clear hE h0
    refine yes_of (want_free rfl) ?_
    go_simp; exact hK _ _ (gb_refl _ _) rfl
  -- 5: chain.go:54 fieldAddr
  apply told_is
  · intro W f hW hE h0 K hK
    have e13 : f 13 = _ := hE 0 13 _ rfl (by kernel_rfl)
    clear hE h0
    refine yes_of (want_free rfl) ?_
    go_simp; exact hK _ _ (gb_refl _ _) rfl
  -- 6: chain.go:54 indexAddr
  apply told_is
  · intro W f hW hE h0 K hK
    have e14 : f 14 = _ := hE 0 14 _ rfl (by kernel_rfl)
    have e12 : f 12 = _ := hE 2 12 _ rfl (by kernel_rfl)
    clear hE h0
    refine yes_of (want_free rfl) ?_
    go_simp; exact hK _ _ (gb_refl _ _) rfl
  -- 7: chain.go:54 load
  apply told_is
  · intro W f hW hE h0 K hK
    have e15 : f 15 = _ := hE 0 15 _ rfl (by kernel_rfl)
    clear hE h0
    refine yes_of (want_free rfl) ?_
    have yd := Hyd.out W hW
    go_simp; exact hK _ _ (gb_refl _ _) rfl
  -- 8: chain.go:54 assign
  apply told_is
  · intro W f hW hE h0 K hK
    have e10 : f 10 = _ := hE 6 10 _ rfl (by kernel_rfl)
    clear hE h0
    refine yes_of (want_free rfl) ?_
    go_simp; exact hK _ _ (gb_refl _ _) rfl
  -- 9: chain.go:54 assign
  apply told_is
  · intro W f hW hE h0 K hK
    have e16 : f 16 = _ := hE 1 16 _ rfl (by kernel_rfl)
    clear hE h0
    refine yes_of (want_free rfl) ?_
    go_simp; exact hK _ _ (gb_refl _ _) rfl
  intro W f hW hA
  simp only [lexIn, Act.put, List.setIfInBounds_toArray, List.set_cons_zero, List.set_cons_succ]
  have e7 : f 7 = _ := hA 1 (some 7) _ rfl
  rw [e7]
  have e8 : f 8 = _ := hA 0 (some 8) _ rfl
  rw [e8]
  clear hA
  clear bk
  have y0 := Hy0.out W hW
  by_cases h0 : N = 0
  · have f0 : ((N : Int) == 0) = true := eq_yes (by omega)
    have f0b : (N == 0) = true := by simpa using h0
    by_cases h1 : kd = 1
    · have f1 : (kd == 1) = true := eq_yes h1
      by_cases h2 : d = 0
      · have f2 : ((d : Int) == 0) = true := eq_yes (by omega)
        have f2n : ((d : Int) != 0) = false := by rw [bne, f2]; rfl
        have f2b : (d == 0) = true := by simpa using h2
        have f2c : (d != 0) = false := by rw [bne, f2b]; rfl
        cases mb with
        | true =>
          exact absurd (Hmb.out.symm.trans (HN0.out h0)) (by decide)
        | false =>
          have HS : Hid (CheckT l kd (d : Int)) := ⟨fun _ => ⟨h1, by omega⟩, fun _ => Hmb.out, fun e => absurd (h1.symm.trans e) (by decide)⟩
          clear h0 h1 h2
          go_wp2_with fail
          go_ret
          exact ⟨.inl ⟨HS.out, rfl⟩, hW⟩
      · have f2 : ((d : Int) == 0) = false := eq_no (by omega)
        have f2n : ((d : Int) != 0) = true := by rw [bne, f2]; rfl
        have f2b : (d == 0) = false := by simpa using h2
        have f2c : (d != 0) = true := by rw [bne, f2b]; rfl
        have HF : Hid (¬ CheckT l kd (d : Int)) := fun h => h2 (by have := (h.1 (HNl.out.trans h0)).2; omega)
        obtain ⟨ea, ec, et, ek, eb⟩ := (HE.out.keep hW).2.2.2.2.1
        have Heb := Lib.hid eb
        clear eb h0 h1 h2
        go_wp2_with fail
        go_ret
        exact ⟨.inr ⟨HF.out, _, rfl, ea, ec, et, Heb.out, rfl⟩, hW⟩
    · have f1 : (kd == 1) = false := eq_no h1
      have HF : Hid (¬ CheckT l kd (d : Int)) := fun h => h1 (h.1 (HNl.out.trans h0)).1
      obtain ⟨ea, ec, et, ek, eb⟩ := (HE.out.keep hW).2.2.2.2.1
      have Heb := Lib.hid eb
      clear eb h0 h1
      go_wp2_with fail
      go_ret
      exact ⟨.inr ⟨HF.out, _, rfl, ea, ec, et, Heb.out, rfl⟩, hW⟩
  · have f0 : ((N : Int) == 0) = false := eq_no (by omega)
    have f0b : (N == 0) = false := by simpa using h0
    by_cases h1 : kd = 1
    · have f1 : (kd == 1) = true := eq_yes h1
      cases mb with
      | true =>
        have HF : Hid (¬ CheckT l kd (d : Int)) := fun h => absurd (Hmb.out.symm.trans (h.2.1 h1)) (by decide)
        obtain ⟨ea, ec, et, ek, eb⟩ := (HE.out.keep hW).2.2.2.2.2.1
        have Heb := Lib.hid eb
        clear eb h0 h1
        go_wp2_with fail
        go_ret
        exact ⟨.inr ⟨HF.out, _, rfl, ea, ec, et, Heb.out, rfl⟩, hW⟩
      | false =>
        have HS : Hid (CheckT l kd (d : Int)) := ⟨fun e => absurd (HNl.out.symm.trans e) h0, fun _ => Hmb.out, fun e => absurd (h1.symm.trans e) (by decide)⟩
        clear h0 h1
        go_wp2_with fail
        go_ret
        exact ⟨.inl ⟨HS.out, rfl⟩, hW⟩
    · have f1 : (kd == 1) = false := eq_no h1
      cases mb with
      | true =>
        by_cases h2 : d = 0
        · have f2 : ((d : Int) == 0) = true := eq_yes (by omega)
          have f2n : ((d : Int) != 0) = false := by rw [bne, f2]; rfl
          have f2b : (d == 0) = true := by simpa using h2
          have f2c : (d != 0) = false := by rw [bne, f2b]; rfl
          have HF : Hid (¬ CheckT l kd (d : Int)) := fun h => (h.2.2 (Hk2.out.resolve_left h1)).2 (by omega)
          obtain ⟨ea, ec, et, ek, eb⟩ := (HE.out.keep hW).2.2.2.2.2.2.2
          have Heb := Lib.hid eb
          clear eb h0 h1 h2
          go_wp2_with fail
          go_ret
          exact ⟨.inr ⟨HF.out, _, rfl, ea, ec, et, Heb.out, rfl⟩, hW⟩
        · have f2 : ((d : Int) == 0) = false := eq_no (by omega)
          have f2n : ((d : Int) != 0) = true := by rw [bne, f2]; rfl
          have f2b : (d == 0) = false := by simpa using h2
          have f2c : (d != 0) = true := by rw [bne, f2b]; rfl
          have HS : Hid (CheckT l kd (d : Int)) := ⟨fun e => absurd (HNl.out.symm.trans e) h0, fun e => absurd e h1, fun _ => ⟨Hmb.out, by omega⟩⟩
          clear h0 h1 h2
          go_wp2_with fail
          go_ret
          exact ⟨.inl ⟨HS.out, rfl⟩, hW⟩
      | false =>
        have HF : Hid (¬ CheckT l kd (d : Int)) := fun h => absurd (Hmb.out.symm.trans (h.2.2 (Hk2.out.resolve_left h1)).1) (by decide)
        obtain ⟨ea, ec, et, ek, eb⟩ := (HE.out.keep hW).2.2.2.2.2.2.1
        have Heb := Lib.hid eb
        clear eb h0 h1
        go_wp2_with fail
        go_ret
        exact ⟨.inr ⟨HF.out, _, rfl, ea, ec, et, Heb.out, rfl⟩, hW⟩
set_option maxHeartbeats 16000000 in
set_option maxRecDepth 100000 in
theorem take_no1 (b : Nat) (l : List Rc) (r : Rc) (RA : Option Addr) (rc : Nat) (w : World) (hr : Row w b 74 (tailCs l)) (hw : ∀ W, w.grownBy W (some b) → WL W RA r.wraps.length r.wraps) (hE : ∀ W, w.grownBy W (some b) → MErrs W) (hn : r.wraps.length ≤ 1099511627776) (hl : l.length ≤ 1000) (hm : ¬ MayR r) :
    Calls Tryz.prog 41 #[.pointer (some ⟨b, 0, none⟩), .agg #[.int .i64 r.seq, .string r.prev, .int .i64 r.kind, .int .i64 r.dev, .slice RA r.wraps.length rc, .string r.tag]] w fun e w' => (∃ v, e = .returned v ∧ Err1 w' v) ∧ w.grownBy w' none := by
  obtain ⟨b1, hb1⟩ : ∃ b1, w.heap.size = b1 := ⟨_, rfl⟩
  obtain ⟨W0, hW0⟩ : ∃ W0, w.alloc (.cells #[.int .i64 r.seq, .string r.prev, .int .i64 r.kind, .int .i64 r.dev, .slice RA r.wraps.length rc, .string r.tag] 26) = W0 := ⟨_, rfl⟩
  have G0 : w.grownBy W0 none := by rw [← hW0]; exact gb_alloc (gb_refl _ _) _
  have hr1 : Row W0 b1 26 #[.int .i64 r.seq, .string r.prev, .int .i64 r.kind, .int .i64 r.dev, .slice RA r.wraps.length rc, .string r.tag] := by rw [← hW0, ← hb1]; exact Row.new _ _ _
  have hbn : b ≠ b1 := by have := hr.lt; omega
  have HX : Hid (∀ W, W0.grownBy W (some b) → RecC0 W b1 r RA rc) := fun W hW => rec_row (hr1.kept hW (by simpa using Ne.symm hbn))
  have HG := Lib.hid G0
  have HR : Hid (Row W0 b 74 (tailCs l)) := hr.kept G0 (by simp)
  have HWL : Hid (∀ W, W0.grownBy W (some b) → WL W RA r.wraps.length r.wraps) := fun W hW => hw W (gb_then (gb_none (gb_refl _ _) G0) hW)
  have HE : Hid (∀ W, W0.grownBy W (some b) → MErrs W) := fun W hW => hE W (gb_then (gb_none (gb_refl _ _) G0) hW)
  have Hn := Lib.hid hn
  obtain ⟨N, hN⟩ : ∃ N, l.length = N := ⟨_, rfl⟩
  have HNl := Lib.hid hN
  have HY : Hid (∀ W, W0.grownBy W none → W.cell? ⟨b, 0, none⟩ = some (.int .i64 (N : Int)) ∧ W.cell? ⟨b, 1, none⟩ = some (.string (lastH l))) := fun W hW => by
    have k := HR.out.kept hW (by simp)
    exact ⟨by rw [← hN]; exact k.at_ (i := 0) rfl, k.at_ (i := 1) rfl⟩
  have Ht1 : Hid (IntKind.i64.wrap ((N : Int) + 1) = (N : Int) + 1) := by show _ = _; rw [IntKind.wrap_i64]; omega
  have HM := Lib.hid (may_any r RA rc W0 (HWL.out W0 (gb_refl _ _)) hn)
  obtain ⟨z0, z1, z2, z3, z4, z5⟩ := HX.out W0 (gb_refl _ _)
  have Hm := Lib.hid hm
  clear G0 hr1 hbn hr hw hE hn hN hm hl
  go_enter Tryz.func41, Tryz.ntmps41
  go_upto_region 1 with fail
  clear hW0 hb1
  go_wp2_with fail
  refine HM.out.mono ?_
  intro e w1 hh
  obtain ⟨he, g1⟩ := hh.no Hm.out
  subst he
  have Hg1 := Lib.hid g1
  clear hh g1 z0 z1 z2 z3 z4 z5
  obtain ⟨ea, ec, et, ek, eb⟩ := (HE.out w1 (gb_none (gb_refl _ _) Hg1.out)).2.1
  have Heb := Lib.hid eb
  clear eb
  go_wp2_with fail
  go_ret
  exact ⟨⟨_, rfl, ea, ec, et, Heb.out, .inl rfl⟩, gb_none HG.out Hg1.out⟩
set_option maxHeartbeats 16000000 in
set_option maxRecDepth 100000 in
theorem take_no2 (b : Nat) (l : List Rc) (r : Rc) (RA : Option Addr) (rc : Nat) (w : World) (hr : Row w b 74 (tailCs l)) (hw : ∀ W, w.grownBy W (some b) → WL W RA r.wraps.length r.wraps) (hE : ∀ W, w.grownBy W (some b) → MErrs W) (hn : r.wraps.length ≤ 1099511627776) (hl : l.length ≤ 1000) (hm : MayR r) (hs : ¬ r.seq = (l.length : Int) + 1) :
    Calls Tryz.prog 41 #[.pointer (some ⟨b, 0, none⟩), .agg #[.int .i64 r.seq, .string r.prev, .int .i64 r.kind, .int .i64 r.dev, .slice RA r.wraps.length rc, .string r.tag]] w fun e w' => (∃ v, e = .returned v ∧ Err1 w' v) ∧ w.grownBy w' none := by
  obtain ⟨b1, hb1⟩ : ∃ b1, w.heap.size = b1 := ⟨_, rfl⟩
  obtain ⟨W0, hW0⟩ : ∃ W0, w.alloc (.cells #[.int .i64 r.seq, .string r.prev, .int .i64 r.kind, .int .i64 r.dev, .slice RA r.wraps.length rc, .string r.tag] 26) = W0 := ⟨_, rfl⟩
  have G0 : w.grownBy W0 none := by rw [← hW0]; exact gb_alloc (gb_refl _ _) _
  have hr1 : Row W0 b1 26 #[.int .i64 r.seq, .string r.prev, .int .i64 r.kind, .int .i64 r.dev, .slice RA r.wraps.length rc, .string r.tag] := by rw [← hW0, ← hb1]; exact Row.new _ _ _
  have hbn : b ≠ b1 := by have := hr.lt; omega
  have HX : Hid (∀ W, W0.grownBy W (some b) → RecC0 W b1 r RA rc) := fun W hW => rec_row (hr1.kept hW (by simpa using Ne.symm hbn))
  have HG := Lib.hid G0
  have HR : Hid (Row W0 b 74 (tailCs l)) := hr.kept G0 (by simp)
  have HWL : Hid (∀ W, W0.grownBy W (some b) → WL W RA r.wraps.length r.wraps) := fun W hW => hw W (gb_then (gb_none (gb_refl _ _) G0) hW)
  have HE : Hid (∀ W, W0.grownBy W (some b) → MErrs W) := fun W hW => hE W (gb_then (gb_none (gb_refl _ _) G0) hW)
  have Hn := Lib.hid hn
  obtain ⟨N, hN⟩ : ∃ N, l.length = N := ⟨_, rfl⟩
  have HNl := Lib.hid hN
  have HY : Hid (∀ W, W0.grownBy W none → W.cell? ⟨b, 0, none⟩ = some (.int .i64 (N : Int)) ∧ W.cell? ⟨b, 1, none⟩ = some (.string (lastH l))) := fun W hW => by
    have k := HR.out.kept hW (by simp)
    exact ⟨by rw [← hN]; exact k.at_ (i := 0) rfl, k.at_ (i := 1) rfl⟩
  have Ht1 : Hid (IntKind.i64.wrap ((N : Int) + 1) = (N : Int) + 1) := by show _ = _; rw [IntKind.wrap_i64]; omega
  have HM := Lib.hid (may_any r RA rc W0 (HWL.out W0 (gb_refl _ _)) hn)
  obtain ⟨z0, z1, z2, z3, z4, z5⟩ := HX.out W0 (gb_refl _ _)
  have Hm := Lib.hid hm
  rw [hN] at hs
  have s2e : (r.seq == (N : Int) + 1) = false := eq_no hs
  have s2n : (r.seq != (N : Int) + 1) = true := by rw [bne, s2e]; rfl
  clear G0 hr1 hbn hr hw hE hn hN hm hs hl
  go_enter Tryz.func41, Tryz.ntmps41
  go_upto_region 1 with fail
  clear hW0 hb1
  go_wp2_with fail
  refine HM.out.mono ?_
  intro e w1 hh
  obtain ⟨he, g1⟩ := hh.yes Hm.out
  subst he
  have Hg1 := Lib.hid g1
  clear hh g1 z0 z1 z2 z3 z4 z5
  go_upto_region 3 with fail
  apply wp_region_told (le := fun a b => a.grownBy b none) [isV _, isV _, isV _, isV _, isV _, isV _, isV _, isV _, isV _]
  case hn => rfl
  case hm => kernel_rfl
  case hB => kernel_rfl
  case ht => exact fun _ _ _ h k => gb_none h k
  case hw => exact gb_drew (gb_refl _ _)
  -- 0: chain.go:37 fieldAddr
  apply told_is
  · intro W f hW hE h0 K hK
    have e3 := h0 3 (by kernel_rfl)
    conv at e3 => rhs; whnf
    clear hE h0
    refine yes_of (want_free rfl) ?_
    go_simp; exact hK _ _ (gb_refl _ _) rfl
  -- 1: chain.go:37 load
  apply told_is
  · intro W f hW hE h0 K hK
    have e12 : f 12 = _ := hE 0 12 _ rfl (by kernel_rfl)
    clear hE h0
    refine yes_of (want_free rfl) ?_
    obtain ⟨z0, z1, z2, z3, z4, z5⟩ := HX.out W (gb_none (gb_refl _ _) (gb_none Hg1.out hW))
    go_simp; exact hK _ _ (gb_refl _ _) rfl
  -- 2: chain.go:37 move
  apply told_is
  · intro W f hW hE h0 K hK
    have e0 := h0 0 (by kernel_rfl)
    conv at e0 => rhs; whnf
    clear hE h0
    refine yes_of (want_free rfl) ?_
    go_simp; exact hK _ _ (gb_refl _ _) rfl
  -- 3: chain.go:37 nilCheck
  apply told_is
  · intro W f hW hE h0 K hK
    have e14 : f 14 = _ := hE 0 14 _ rfl (by kernel_rfl)
    clear hE h0
    refine yes_of (want_free rfl) ?_
    go_simp; exact hK _ _ (gb_refl _ _) rfl
  -- 4: chain.go:37 fieldAddr
  apply told_is
  · intro W f hW hE h0 K hK
    have e15 : f 15 = _ := hE 0 15 _ rfl (by kernel_rfl)
    clear hE h0
    refine yes_of (want_free rfl) ?_
    go_simp; exact hK _ _ (gb_refl _ _) rfl
  -- 5: chain.go:37 load
  apply told_is
  · intro W f hW hE h0 K hK
    have e16 : f 16 = _ := hE 0 16 _ rfl (by kernel_rfl)
    clear hE h0
    refine yes_of (want_free rfl) ?_
    obtain ⟨y0, y1⟩ := HY.out W (gb_none Hg1.out hW)
    go_simp; exact hK _ _ (gb_refl _ _) rfl
  -- 6: chain.go:37 binOp
  apply told_is
  · intro W f hW hE h0 K hK
    have e17 : f 17 = _ := hE 0 17 _ rfl (by kernel_rfl)
    clear hE h0
    refine yes_of (want_free rfl) ?_
    have t1 := Ht1.out
    go_simp; exact hK _ _ (gb_refl _ _) rfl
  -- 7: chain.go:37 binOp
  apply told_is
  · intro W f hW hE h0 K hK
    have e13 : f 13 = _ := hE 5 13 _ rfl (by kernel_rfl)
    have e18 : f 18 = _ := hE 0 18 _ rfl (by kernel_rfl)
    clear hE h0
    refine yes_of (want_free rfl) ?_
    go_simp; exact hK _ _ (gb_refl _ _) rfl
  -- 8: chain.go:37 assign
  apply told_is
  · intro W f hW hE h0 K hK
    have e19 : f 19 = _ := hE 0 19 _ rfl (by kernel_rfl)
    clear hE h0
    refine yes_of (want_free rfl) ?_
    go_simp; exact hK _ _ (gb_refl _ _) rfl
  intro W f hW hA
  simp only [lexIn, Act.put, List.setIfInBounds_toArray, List.set_cons_zero, List.set_cons_succ]
  have e11 : f 11 = _ := hA 0 (some 11) _ rfl
  rw [e11]
  clear hA
  have Hg3 := Lib.hid (gb_none Hg1.out hW)
  clear hW
  generalize W = w3 at *
  obtain ⟨ea, ec, et, ek, eb⟩ := (HE.out w3 (gb_none (gb_refl _ _) Hg3.out)).2.2.1
  have Heb := Lib.hid eb
  clear eb
  obtain ⟨z0, z1, z2, z3, z4, z5⟩ := HX.out w3 (gb_none (gb_refl _ _) Hg3.out)
  go_wp2_with fail
  go_ret
  exact ⟨⟨_, rfl, ea, ec, et, Heb.out, .inr ⟨_, _, rfl⟩⟩, gb_none HG.out Hg3.out⟩
set_option maxHeartbeats 16000000 in
set_option maxRecDepth 100000 in
theorem take_no3 (b : Nat) (l : List Rc) (r : Rc) (RA : Option Addr) (rc : Nat) (w : World) (hr : Row w b 74 (tailCs l)) (hw : ∀ W, w.grownBy W (some b) → WL W RA r.wraps.length r.wraps) (hE : ∀ W, w.grownBy W (some b) → MErrs W) (hn : r.wraps.length ≤ 1099511627776) (hl : l.length ≤ 1000) (hm : MayR r) (hs : r.seq = (l.length : Int) + 1) (hp : ¬ r.prev = lastH l) :
    Calls Tryz.prog 41 #[.pointer (some ⟨b, 0, none⟩), .agg #[.int .i64 r.seq, .string r.prev, .int .i64 r.kind, .int .i64 r.dev, .slice RA r.wraps.length rc, .string r.tag]] w fun e w' => (∃ v, e = .returned v ∧ Err1 w' v) ∧ w.grownBy w' none := by
  obtain ⟨b1, hb1⟩ : ∃ b1, w.heap.size = b1 := ⟨_, rfl⟩
  obtain ⟨W0, hW0⟩ : ∃ W0, w.alloc (.cells #[.int .i64 r.seq, .string r.prev, .int .i64 r.kind, .int .i64 r.dev, .slice RA r.wraps.length rc, .string r.tag] 26) = W0 := ⟨_, rfl⟩
  have G0 : w.grownBy W0 none := by rw [← hW0]; exact gb_alloc (gb_refl _ _) _
  have hr1 : Row W0 b1 26 #[.int .i64 r.seq, .string r.prev, .int .i64 r.kind, .int .i64 r.dev, .slice RA r.wraps.length rc, .string r.tag] := by rw [← hW0, ← hb1]; exact Row.new _ _ _
  have hbn : b ≠ b1 := by have := hr.lt; omega
  have HX : Hid (∀ W, W0.grownBy W (some b) → RecC0 W b1 r RA rc) := fun W hW => rec_row (hr1.kept hW (by simpa using Ne.symm hbn))
  have HG := Lib.hid G0
  have HR : Hid (Row W0 b 74 (tailCs l)) := hr.kept G0 (by simp)
  have HWL : Hid (∀ W, W0.grownBy W (some b) → WL W RA r.wraps.length r.wraps) := fun W hW => hw W (gb_then (gb_none (gb_refl _ _) G0) hW)
  have HE : Hid (∀ W, W0.grownBy W (some b) → MErrs W) := fun W hW => hE W (gb_then (gb_none (gb_refl _ _) G0) hW)
  have Hn := Lib.hid hn
  obtain ⟨N, hN⟩ : ∃ N, l.length = N := ⟨_, rfl⟩
  have HNl := Lib.hid hN
  have HY : Hid (∀ W, W0.grownBy W none → W.cell? ⟨b, 0, none⟩ = some (.int .i64 (N : Int)) ∧ W.cell? ⟨b, 1, none⟩ = some (.string (lastH l))) := fun W hW => by
    have k := HR.out.kept hW (by simp)
    exact ⟨by rw [← hN]; exact k.at_ (i := 0) rfl, k.at_ (i := 1) rfl⟩
  have Ht1 : Hid (IntKind.i64.wrap ((N : Int) + 1) = (N : Int) + 1) := by show _ = _; rw [IntKind.wrap_i64]; omega
  have HM := Lib.hid (may_any r RA rc W0 (HWL.out W0 (gb_refl _ _)) hn)
  obtain ⟨z0, z1, z2, z3, z4, z5⟩ := HX.out W0 (gb_refl _ _)
  have Hm := Lib.hid hm
  rw [hN] at hs
  have s2e : (r.seq == (N : Int) + 1) = true := eq_yes hs
  have s2n : (r.seq != (N : Int) + 1) = false := by rw [bne, s2e]; rfl
  have s3e : (r.prev.toList == (lastH l).toList) = false := str_ne hp
  have s3n : (r.prev.toList != (lastH l).toList) = true := by rw [bne, s3e]; rfl
  clear G0 hr1 hbn hr hw hE hn hN hm hs hp hl
  go_enter Tryz.func41, Tryz.ntmps41
  go_upto_region 1 with fail
  clear hW0 hb1
  go_wp2_with fail
  refine HM.out.mono ?_
  intro e w1 hh
  obtain ⟨he, g1⟩ := hh.yes Hm.out
  subst he
  have Hg1 := Lib.hid g1
  clear hh g1 z0 z1 z2 z3 z4 z5
  go_upto_region 3 with fail
  apply wp_region_told (le := fun a b => a.grownBy b none) [isV _, isV _, isV _, isV _, isV _, isV _, isV _, isV _, isV _]
  case hn => rfl
  case hm => kernel_rfl
  case hB => kernel_rfl
  case ht => exact fun _ _ _ h k => gb_none h k
  case hw => exact gb_drew (gb_refl _ _)
  -- 0: chain.go:37 fieldAddr
  apply told_is
  · intro W f hW hE h0 K hK
    have e3 := h0 3 (by kernel_rfl)
    conv at e3 => rhs; whnf
    clear hE h0
    refine yes_of (want_free rfl) ?_
    go_simp; exact hK _ _ (gb_refl _ _) rfl
  -- 1: chain.go:37 load
  apply told_is
  · intro W f hW hE h0 K hK
    have e12 : f 12 = _ := hE 0 12 _ rfl (by kernel_rfl)
    clear hE h0
    refine yes_of (want_free rfl) ?_
    obtain ⟨z0, z1, z2, z3, z4, z5⟩ := HX.out W (gb_none (gb_refl _ _) (gb_none Hg1.out hW))
    go_simp; exact hK _ _ (gb_refl _ _) rfl
  -- 2: chain.go:37 move
  apply told_is
  · intro W f hW hE h0 K hK
    have e0 := h0 0 (by kernel_rfl)
    conv at e0 => rhs; whnf
    clear hE h0
    refine yes_of (want_free rfl) ?_
    go_simp; exact hK _ _ (gb_refl _ _) rfl
  -- 3: chain.go:37 nilCheck
  apply told_is
  · intro W f hW hE h0 K hK
    have e14 : f 14 = _ := hE 0 14 _ rfl (by kernel_rfl)
    clear hE h0
    refine yes_of (want_free rfl) ?_
    go_simp; exact hK _ _ (gb_refl _ _) rfl
  -- 4: chain.go:37 fieldAddr
  apply told_is
  · intro W f hW hE h0 K hK
    have e15 : f 15 = _ := hE 0 15 _ rfl (by kernel_rfl)
    clear hE h0
    refine yes_of (want_free rfl) ?_
    go_simp; exact hK _ _ (gb_refl _ _) rfl
  -- 5: chain.go:37 load
  apply told_is
  · intro W f hW hE h0 K hK
    have e16 : f 16 = _ := hE 0 16 _ rfl (by kernel_rfl)
    clear hE h0
    refine yes_of (want_free rfl) ?_
    obtain ⟨y0, y1⟩ := HY.out W (gb_none Hg1.out hW)
    go_simp; exact hK _ _ (gb_refl _ _) rfl
  -- 6: chain.go:37 binOp
  apply told_is
  · intro W f hW hE h0 K hK
    have e17 : f 17 = _ := hE 0 17 _ rfl (by kernel_rfl)
    clear hE h0
    refine yes_of (want_free rfl) ?_
    have t1 := Ht1.out
    go_simp; exact hK _ _ (gb_refl _ _) rfl
  -- 7: chain.go:37 binOp
  apply told_is
  · intro W f hW hE h0 K hK
    have e13 : f 13 = _ := hE 5 13 _ rfl (by kernel_rfl)
    have e18 : f 18 = _ := hE 0 18 _ rfl (by kernel_rfl)
    clear hE h0
    refine yes_of (want_free rfl) ?_
    go_simp; exact hK _ _ (gb_refl _ _) rfl
  -- 8: chain.go:37 assign
  apply told_is
  · intro W f hW hE h0 K hK
    have e19 : f 19 = _ := hE 0 19 _ rfl (by kernel_rfl)
    clear hE h0
    refine yes_of (want_free rfl) ?_
    go_simp; exact hK _ _ (gb_refl _ _) rfl
  intro W f hW hA
  simp only [lexIn, Act.put, List.setIfInBounds_toArray, List.set_cons_zero, List.set_cons_succ]
  have e11 : f 11 = _ := hA 0 (some 11) _ rfl
  rw [e11]
  clear hA
  have Hg3 := Lib.hid (gb_none Hg1.out hW)
  clear hW
  generalize W = w3 at *
  go_upto_region 5 with fail
  apply wp_region_told (le := fun a b => a.grownBy b none) [isV _, isV _, isV _, isV _, isV _, isV _, isV _, isV _]
  case hn => rfl
  case hm => kernel_rfl
  case hB => kernel_rfl
  case ht => exact fun _ _ _ h k => gb_none h k
  case hw => exact gb_drew (gb_refl _ _)
  -- 0: chain.go:39 fieldAddr
  apply told_is
  · intro W f hW hE h0 K hK
    have e3 := h0 3 (by kernel_rfl)
    conv at e3 => rhs; whnf
    clear hE h0
    refine yes_of (want_free rfl) ?_
    go_simp; exact hK _ _ (gb_refl _ _) rfl
  -- 1: chain.go:39 load
  apply told_is
  · intro W f hW hE h0 K hK
    have e26 : f 26 = _ := hE 0 26 _ rfl (by kernel_rfl)
    clear hE h0
    refine yes_of (want_free rfl) ?_
    obtain ⟨z0, z1, z2, z3, z4, z5⟩ := HX.out W (gb_none (gb_refl _ _) (gb_none Hg3.out hW))
    go_simp; exact hK _ _ (gb_refl _ _) rfl
  -- 2: chain.go:39 move
  apply told_is
  · intro W f hW hE h0 K hK
    have e0 := h0 0 (by kernel_rfl)
    conv at e0 => rhs; whnf
    clear hE h0
    refine yes_of (want_free rfl) ?_
    go_simp; exact hK _ _ (gb_refl _ _) rfl
  -- 3: chain.go:39 nilCheck
  apply told_is
  · intro W f hW hE h0 K hK
    have e28 : f 28 = _ := hE 0 28 _ rfl (by kernel_rfl)
    clear hE h0
    refine yes_of (want_free rfl) ?_
    go_simp; exact hK _ _ (gb_refl _ _) rfl
  -- 4: chain.go:39 fieldAddr
  apply told_is
  · intro W f hW hE h0 K hK
    have e29 : f 29 = _ := hE 0 29 _ rfl (by kernel_rfl)
    clear hE h0
    refine yes_of (want_free rfl) ?_
    go_simp; exact hK _ _ (gb_refl _ _) rfl
  -- 5: chain.go:39 load
  apply told_is
  · intro W f hW hE h0 K hK
    have e30 : f 30 = _ := hE 0 30 _ rfl (by kernel_rfl)
    clear hE h0
    refine yes_of (want_free rfl) ?_
    obtain ⟨y0, y1⟩ := HY.out W (gb_none Hg3.out hW)
    go_simp; exact hK _ _ (gb_refl _ _) rfl
  -- 6: chain.go:39 binOp
  apply told_is
  · intro W f hW hE h0 K hK
    have e27 : f 27 = _ := hE 4 27 _ rfl (by kernel_rfl)
    have e31 : f 31 = _ := hE 0 31 _ rfl (by kernel_rfl)
    clear hE h0
    refine yes_of (want_free rfl) ?_
    go_simp; exact hK _ _ (gb_refl _ _) rfl
  -- 7: chain.go:39 assign
  apply told_is
  · intro W f hW hE h0 K hK
    have e32 : f 32 = _ := hE 0 32 _ rfl (by kernel_rfl)
    clear hE h0
    refine yes_of (want_free rfl) ?_
    go_simp; exact hK _ _ (gb_refl _ _) rfl
  intro W f hW hA
  simp only [lexIn, Act.put, List.setIfInBounds_toArray, List.set_cons_zero, List.set_cons_succ]
  have e25 : f 25 = _ := hA 0 (some 25) _ rfl
  rw [e25]
  clear hA
  have Hg5 := Lib.hid (gb_none Hg3.out hW)
  clear hW
  generalize W = w5 at *
  obtain ⟨z0, z1, z2, z3, z4, z5⟩ := HX.out w5 (gb_none (gb_refl _ _) Hg5.out)
  obtain ⟨ea, ec, et, ek, eb⟩ := (HE.out w5 (gb_none (gb_refl _ _) Hg5.out)).2.2.2.1
  have Heb := Lib.hid eb
  clear eb
  go_wp2_with fail
  go_ret
  exact ⟨⟨_, rfl, ea, ec, et, Heb.out, .inr ⟨_, _, rfl⟩⟩, gb_none HG.out Hg5.out⟩
set_option maxHeartbeats 16000000 in
set_option maxRecDepth 100000 in
theorem take_no4 (b : Nat) (l : List Rc) (r : Rc) (RA : Option Addr) (rc : Nat) (w : World) (hr : Row w b 74 (tailCs l)) (hw : ∀ W, w.grownBy W (some b) → WL W RA r.wraps.length r.wraps) (hE : ∀ W, w.grownBy W (some b) → MErrs W) (hn : r.wraps.length ≤ 1099511627776) (hl : l.length ≤ 1000) (hm : MayR r) (hs : r.seq = (l.length : Int) + 1) (hp : r.prev = lastH l) (hct : ¬ CheckT l r.kind r.dev) :
    Calls Tryz.prog 41 #[.pointer (some ⟨b, 0, none⟩), .agg #[.int .i64 r.seq, .string r.prev, .int .i64 r.kind, .int .i64 r.dev, .slice RA r.wraps.length rc, .string r.tag]] w fun e w' => (∃ v, e = .returned v ∧ Err1 w' v) ∧ w.grownBy w' none := by
  obtain ⟨b1, hb1⟩ : ∃ b1, w.heap.size = b1 := ⟨_, rfl⟩
  obtain ⟨W0, hW0⟩ : ∃ W0, w.alloc (.cells #[.int .i64 r.seq, .string r.prev, .int .i64 r.kind, .int .i64 r.dev, .slice RA r.wraps.length rc, .string r.tag] 26) = W0 := ⟨_, rfl⟩
  have G0 : w.grownBy W0 none := by rw [← hW0]; exact gb_alloc (gb_refl _ _) _
  have hr1 : Row W0 b1 26 #[.int .i64 r.seq, .string r.prev, .int .i64 r.kind, .int .i64 r.dev, .slice RA r.wraps.length rc, .string r.tag] := by rw [← hW0, ← hb1]; exact Row.new _ _ _
  have hbn : b ≠ b1 := by have := hr.lt; omega
  have HX : Hid (∀ W, W0.grownBy W (some b) → RecC0 W b1 r RA rc) := fun W hW => rec_row (hr1.kept hW (by simpa using Ne.symm hbn))
  have HG := Lib.hid G0
  have HR : Hid (Row W0 b 74 (tailCs l)) := hr.kept G0 (by simp)
  have HWL : Hid (∀ W, W0.grownBy W (some b) → WL W RA r.wraps.length r.wraps) := fun W hW => hw W (gb_then (gb_none (gb_refl _ _) G0) hW)
  have HE : Hid (∀ W, W0.grownBy W (some b) → MErrs W) := fun W hW => hE W (gb_then (gb_none (gb_refl _ _) G0) hW)
  have Hn := Lib.hid hn
  obtain ⟨N, hN⟩ : ∃ N, l.length = N := ⟨_, rfl⟩
  have HNl := Lib.hid hN
  have HY : Hid (∀ W, W0.grownBy W none → W.cell? ⟨b, 0, none⟩ = some (.int .i64 (N : Int)) ∧ W.cell? ⟨b, 1, none⟩ = some (.string (lastH l))) := fun W hW => by
    have k := HR.out.kept hW (by simp)
    exact ⟨by rw [← hN]; exact k.at_ (i := 0) rfl, k.at_ (i := 1) rfl⟩
  have Ht1 : Hid (IntKind.i64.wrap ((N : Int) + 1) = (N : Int) + 1) := by show _ = _; rw [IntKind.wrap_i64]; omega
  have HM := Lib.hid (may_any r RA rc W0 (HWL.out W0 (gb_refl _ _)) hn)
  obtain ⟨z0, z1, z2, z3, z4, z5⟩ := HX.out W0 (gb_refl _ _)
  obtain ⟨d, hd⟩ : ∃ d : Nat, r.dev = (d : Int) := ⟨r.dev.toNat, by have := hm.1.2.2.2.2.1; omega⟩
  have hd8 : d < 8 := by have := hm.1.2.2.2.2.2.1; omega
  have HC : Hid (∀ W, W0.grownBy W none → Calls Tryz.prog 66 #[.pointer (some ⟨b, 0, none⟩), .int .i64 r.kind, .int .i64 r.dev] W fun e w' => ((CheckT l r.kind r.dev ∧ e = .returned .nilIface) ∨ (¬ CheckT l r.kind r.dev ∧ ∃ v, e = .returned v ∧ Err0 w' v)) ∧ W.grownBy w' none) := fun W hW => by
    rw [hd]
    exact check_any b l r.kind d hd8 hm.1.2.2.2.1 W (HR.out.kept hW (by simp)) (HE.out W (gb_none (gb_refl _ _) hW))
  have Hm := Lib.hid hm
  have Hct := Lib.hid hct
  rw [hN] at hs
  have s2e : (r.seq == (N : Int) + 1) = true := eq_yes hs
  have s2n : (r.seq != (N : Int) + 1) = false := by rw [bne, s2e]; rfl
  have s3e : (r.prev.toList == (lastH l).toList) = true := str_eq hp
  have s3n : (r.prev.toList != (lastH l).toList) = false := by rw [bne, s3e]; rfl
  clear G0 hr1 hbn hr hw hE hn hN hm hs hp hct hd hd8 hl
  go_enter Tryz.func41, Tryz.ntmps41
  go_upto_region 1 with fail
  clear hW0 hb1
  go_wp2_with fail
  refine HM.out.mono ?_
  intro e w1 hh
  obtain ⟨he, g1⟩ := hh.yes Hm.out
  subst he
  have Hg1 := Lib.hid g1
  clear hh g1 z0 z1 z2 z3 z4 z5
  go_upto_region 3 with fail
  apply wp_region_told (le := fun a b => a.grownBy b none) [isV _, isV _, isV _, isV _, isV _, isV _, isV _, isV _, isV _]
  case hn => rfl
  case hm => kernel_rfl
  case hB => kernel_rfl
  case ht => exact fun _ _ _ h k => gb_none h k
  case hw => exact gb_drew (gb_refl _ _)
  -- 0: chain.go:37 fieldAddr
  apply told_is
  · intro W f hW hE h0 K hK
    have e3 := h0 3 (by kernel_rfl)
    conv at e3 => rhs; whnf
    clear hE h0
    refine yes_of (want_free rfl) ?_
    go_simp; exact hK _ _ (gb_refl _ _) rfl
  -- 1: chain.go:37 load
  apply told_is
  · intro W f hW hE h0 K hK
    have e12 : f 12 = _ := hE 0 12 _ rfl (by kernel_rfl)
    clear hE h0
    refine yes_of (want_free rfl) ?_
    obtain ⟨z0, z1, z2, z3, z4, z5⟩ := HX.out W (gb_none (gb_refl _ _) (gb_none Hg1.out hW))
    go_simp; exact hK _ _ (gb_refl _ _) rfl
  -- 2: chain.go:37 move
  apply told_is
  · intro W f hW hE h0 K hK
    have e0 := h0 0 (by kernel_rfl)
    conv at e0 => rhs; whnf
    clear hE h0
    refine yes_of (want_free rfl) ?_
    go_simp; exact hK _ _ (gb_refl _ _) rfl
  -- 3: chain.go:37 nilCheck
  apply told_is
  · intro W f hW hE h0 K hK
    have e14 : f 14 = _ := hE 0 14 _ rfl (by kernel_rfl)
    clear hE h0
    refine yes_of (want_free rfl) ?_
    go_simp; exact hK _ _ (gb_refl _ _) rfl
  -- 4: chain.go:37 fieldAddr
  apply told_is
  · intro W f hW hE h0 K hK
    have e15 : f 15 = _ := hE 0 15 _ rfl (by kernel_rfl)
    clear hE h0
    refine yes_of (want_free rfl) ?_
    go_simp; exact hK _ _ (gb_refl _ _) rfl
  -- 5: chain.go:37 load
  apply told_is
  · intro W f hW hE h0 K hK
    have e16 : f 16 = _ := hE 0 16 _ rfl (by kernel_rfl)
    clear hE h0
    refine yes_of (want_free rfl) ?_
    obtain ⟨y0, y1⟩ := HY.out W (gb_none Hg1.out hW)
    go_simp; exact hK _ _ (gb_refl _ _) rfl
  -- 6: chain.go:37 binOp
  apply told_is
  · intro W f hW hE h0 K hK
    have e17 : f 17 = _ := hE 0 17 _ rfl (by kernel_rfl)
    clear hE h0
    refine yes_of (want_free rfl) ?_
    have t1 := Ht1.out
    go_simp; exact hK _ _ (gb_refl _ _) rfl
  -- 7: chain.go:37 binOp
  apply told_is
  · intro W f hW hE h0 K hK
    have e13 : f 13 = _ := hE 5 13 _ rfl (by kernel_rfl)
    have e18 : f 18 = _ := hE 0 18 _ rfl (by kernel_rfl)
    clear hE h0
    refine yes_of (want_free rfl) ?_
    go_simp; exact hK _ _ (gb_refl _ _) rfl
  -- 8: chain.go:37 assign
  apply told_is
  · intro W f hW hE h0 K hK
    have e19 : f 19 = _ := hE 0 19 _ rfl (by kernel_rfl)
    clear hE h0
    refine yes_of (want_free rfl) ?_
    go_simp; exact hK _ _ (gb_refl _ _) rfl
  intro W f hW hA
  simp only [lexIn, Act.put, List.setIfInBounds_toArray, List.set_cons_zero, List.set_cons_succ]
  have e11 : f 11 = _ := hA 0 (some 11) _ rfl
  rw [e11]
  clear hA
  have Hg3 := Lib.hid (gb_none Hg1.out hW)
  clear hW
  generalize W = w3 at *
  go_upto_region 5 with fail
  apply wp_region_told (le := fun a b => a.grownBy b none) [isV _, isV _, isV _, isV _, isV _, isV _, isV _, isV _]
  case hn => rfl
  case hm => kernel_rfl
  case hB => kernel_rfl
  case ht => exact fun _ _ _ h k => gb_none h k
  case hw => exact gb_drew (gb_refl _ _)
  -- 0: chain.go:39 fieldAddr
  apply told_is
  · intro W f hW hE h0 K hK
    have e3 := h0 3 (by kernel_rfl)
    conv at e3 => rhs; whnf
    clear hE h0
    refine yes_of (want_free rfl) ?_
    go_simp; exact hK _ _ (gb_refl _ _) rfl
  -- 1: chain.go:39 load
  apply told_is
  · intro W f hW hE h0 K hK
    have e26 : f 26 = _ := hE 0 26 _ rfl (by kernel_rfl)
    clear hE h0
    refine yes_of (want_free rfl) ?_
    obtain ⟨z0, z1, z2, z3, z4, z5⟩ := HX.out W (gb_none (gb_refl _ _) (gb_none Hg3.out hW))
    go_simp; exact hK _ _ (gb_refl _ _) rfl
  -- 2: chain.go:39 move
  apply told_is
  · intro W f hW hE h0 K hK
    have e0 := h0 0 (by kernel_rfl)
    conv at e0 => rhs; whnf
    clear hE h0
    refine yes_of (want_free rfl) ?_
    go_simp; exact hK _ _ (gb_refl _ _) rfl
  -- 3: chain.go:39 nilCheck
  apply told_is
  · intro W f hW hE h0 K hK
    have e28 : f 28 = _ := hE 0 28 _ rfl (by kernel_rfl)
    clear hE h0
    refine yes_of (want_free rfl) ?_
    go_simp; exact hK _ _ (gb_refl _ _) rfl
  -- 4: chain.go:39 fieldAddr
  apply told_is
  · intro W f hW hE h0 K hK
    have e29 : f 29 = _ := hE 0 29 _ rfl (by kernel_rfl)
    clear hE h0
    refine yes_of (want_free rfl) ?_
    go_simp; exact hK _ _ (gb_refl _ _) rfl
  -- 5: chain.go:39 load
  apply told_is
  · intro W f hW hE h0 K hK
    have e30 : f 30 = _ := hE 0 30 _ rfl (by kernel_rfl)
    clear hE h0
    refine yes_of (want_free rfl) ?_
    obtain ⟨y0, y1⟩ := HY.out W (gb_none Hg3.out hW)
    go_simp; exact hK _ _ (gb_refl _ _) rfl
  -- 6: chain.go:39 binOp
  apply told_is
  · intro W f hW hE h0 K hK
    have e27 : f 27 = _ := hE 4 27 _ rfl (by kernel_rfl)
    have e31 : f 31 = _ := hE 0 31 _ rfl (by kernel_rfl)
    clear hE h0
    refine yes_of (want_free rfl) ?_
    go_simp; exact hK _ _ (gb_refl _ _) rfl
  -- 7: chain.go:39 assign
  apply told_is
  · intro W f hW hE h0 K hK
    have e32 : f 32 = _ := hE 0 32 _ rfl (by kernel_rfl)
    clear hE h0
    refine yes_of (want_free rfl) ?_
    go_simp; exact hK _ _ (gb_refl _ _) rfl
  intro W f hW hA
  simp only [lexIn, Act.put, List.setIfInBounds_toArray, List.set_cons_zero, List.set_cons_succ]
  have e25 : f 25 = _ := hA 0 (some 25) _ rfl
  rw [e25]
  clear hA
  have Hg5 := Lib.hid (gb_none Hg3.out hW)
  clear hW
  generalize W = w5 at *
  obtain ⟨z0, z1, z2, z3, z4, z5⟩ := HX.out w5 (gb_none (gb_refl _ _) Hg5.out)
  go_wp2_with fail
  refine (HC.out w5 Hg5.out).mono ?_
  rintro e w6 ⟨hres, g6⟩
  rcases hres with ⟨h1, _⟩ | ⟨_, v, rfl, hv⟩
  · exact absurd h1 Hct.out
  obtain ⟨ea, ec, et, eb, rfl⟩ := hv
  have Heb := Lib.hid eb
  have Hg6 := Lib.hid (gb_none Hg5.out g6)
  clear eb g6 z0 z1 z2 z3 z4 z5
  obtain ⟨z0, z1, z2, z3, z4, z5⟩ := HX.out w6 (gb_none (gb_refl _ _) Hg6.out)
  go_wp2_with fail
  go_ret
  exact ⟨⟨_, rfl, ea, ec, et, Heb.out, .inr ⟨_, _, rfl⟩⟩, gb_none HG.out Hg6.out⟩
theorem tail_get (l : List Rc) (d : Nat) (hd : d < 8) : (tailCs l)[2 + d]? = some (.bool (memL l (d : Int))) := by
  match d, hd with
  | 0, _ => rfl
  | 1, _ => rfl
  | 2, _ => rfl
  | 3, _ => rfl
  | 4, _ => rfl
  | 5, _ => rfl
  | 6, _ => rfl
  | 7, _ => rfl
set_option maxHeartbeats 40000000 in
set_option maxRecDepth 100000 in
theorem take_yes (b : Nat) (l : List Rc) (r : Rc) (RA : Option Addr) (rc : Nat) (w : World) (hr : Row w b 74 (tailCs l)) (hw : ∀ W, w.grownBy W (some b) → WL W RA r.wraps.length r.wraps) (hE : ∀ W, w.grownBy W (some b) → MErrs W) (hn : r.wraps.length ≤ 1099511627776) (hl : l.length ≤ 1000) (hT : ∀ W, w.grownBy W (some b) → Hh.Tabs W) (hm : MayR r) (hs : r.seq = (l.length : Int) + 1) (hp : r.prev = lastH l) (hct : CheckT l r.kind r.dev) :
    Calls Tryz.prog 41 #[.pointer (some ⟨b, 0, none⟩), .agg #[.int .i64 r.seq, .string r.prev, .int .i64 r.kind, .int .i64 r.dev, .slice RA r.wraps.length rc, .string r.tag]] w fun e w' => e = .returned .nilIface ∧ Row w' b 74 (tailCs (l ++ [r])) ∧ w.grownBy w' (some b) := by
  obtain ⟨b1, hb1⟩ : ∃ b1, w.heap.size = b1 := ⟨_, rfl⟩
  obtain ⟨W0, hW0⟩ : ∃ W0, w.alloc (.cells #[.int .i64 r.seq, .string r.prev, .int .i64 r.kind, .int .i64 r.dev, .slice RA r.wraps.length rc, .string r.tag] 26) = W0 := ⟨_, rfl⟩
  have G0 : w.grownBy W0 none := by rw [← hW0]; exact gb_alloc (gb_refl _ _) _
  have hr1 : Row W0 b1 26 #[.int .i64 r.seq, .string r.prev, .int .i64 r.kind, .int .i64 r.dev, .slice RA r.wraps.length rc, .string r.tag] := by rw [← hW0, ← hb1]; exact Row.new _ _ _
  have hbn : b ≠ b1 := by have := hr.lt; omega
  have HX : Hid (∀ W, W0.grownBy W (some b) → RecC0 W b1 r RA rc) := fun W hW => rec_row (hr1.kept hW (by simpa using Ne.symm hbn))
  have HG := Lib.hid G0
  have HR : Hid (Row W0 b 74 (tailCs l)) := hr.kept G0 (by simp)
  have HWL : Hid (∀ W, W0.grownBy W (some b) → WL W RA r.wraps.length r.wraps) := fun W hW => hw W (gb_then (gb_none (gb_refl _ _) G0) hW)
  have HE : Hid (∀ W, W0.grownBy W (some b) → MErrs W) := fun W hW => hE W (gb_then (gb_none (gb_refl _ _) G0) hW)
  have Hn := Lib.hid hn
  obtain ⟨N, hN⟩ : ∃ N, l.length = N := ⟨_, rfl⟩
  have HNl := Lib.hid hN
  have HY : Hid (∀ W, W0.grownBy W none → W.cell? ⟨b, 0, none⟩ = some (.int .i64 (N : Int)) ∧ W.cell? ⟨b, 1, none⟩ = some (.string (lastH l))) := fun W hW => by
    have k := HR.out.kept hW (by simp)
    exact ⟨by rw [← hN]; exact k.at_ (i := 0) rfl, k.at_ (i := 1) rfl⟩
  have Ht1 : Hid (IntKind.i64.wrap ((N : Int) + 1) = (N : Int) + 1) := by show _ = _; rw [IntKind.wrap_i64]; omega
  have HM := Lib.hid (may_any r RA rc W0 (HWL.out W0 (gb_refl _ _)) hn)
  obtain ⟨z0, z1, z2, z3, z4, z5⟩ := HX.out W0 (gb_refl _ _)
  have HTb : Hid (∀ W, W0.grownBy W (some b) → Hh.Tabs W) := fun W hW => hT W (gb_then (gb_none (gb_refl _ _) G0) hW)
  obtain ⟨d, hd⟩ : ∃ d : Nat, r.dev = (d : Int) := ⟨r.dev.toNat, by have := hm.1.2.2.2.2.1; omega⟩
  have hd8 : d < 8 := by have := hm.1.2.2.2.2.2.1; omega
  have HC : Hid (∀ W, W0.grownBy W none → Calls Tryz.prog 66 #[.pointer (some ⟨b, 0, none⟩), .int .i64 r.kind, .int .i64 r.dev] W fun e w' => ((CheckT l r.kind r.dev ∧ e = .returned .nilIface) ∨ (¬ CheckT l r.kind r.dev ∧ ∃ v, e = .returned v ∧ Err0 w' v)) ∧ W.grownBy w' none) := fun W hW => by
    rw [hd]
    exact check_any b l r.kind d hd8 hm.1.2.2.2.1 W (HR.out.kept hW (by simp)) (HE.out W (gb_none (gb_refl _ _) hW))
  have Hm := Lib.hid hm
  have Hct := Lib.hid hct
  have Hd := Lib.hid hd
  have Hd8 := Lib.hid hd8
  have Hsq := Lib.hid hs
  rw [hN] at hs
  have s2e : (r.seq == (N : Int) + 1) = true := eq_yes hs
  have s2n : (r.seq != (N : Int) + 1) = false := by rw [bne, s2e]; rfl
  have s3e : (r.prev.toList == (lastH l).toList) = true := str_eq hp
  have s3n : (r.prev.toList != (lastH l).toList) = false := by rw [bne, s3e]; rfl
  clear G0 hr1 hbn hr hw hE hn hN hm hs hp hct hd hd8 hl hT
  go_enter Tryz.func41, Tryz.ntmps41
  go_upto_region 1 with fail
  clear hW0 hb1
  go_wp2_with fail
  refine HM.out.mono ?_
  intro e w1 hh
  obtain ⟨he, g1⟩ := hh.yes Hm.out
  subst he
  have Hg1 := Lib.hid g1
  clear hh g1 z0 z1 z2 z3 z4 z5
  go_upto_region 3 with fail
  apply wp_region_told (le := fun a b => a.grownBy b none) [isV _, isV _, isV _, isV _, isV _, isV _, isV _, isV _, isV _]
  case hn => rfl
  case hm => kernel_rfl
  case hB => kernel_rfl
  case ht => exact fun _ _ _ h k => gb_none h k
  case hw => exact gb_drew (gb_refl _ _)
  -- 0: chain.go:37 fieldAddr
  apply told_is
  · intro W f hW hE h0 K hK
    have e3 := h0 3 (by kernel_rfl)
    conv at e3 => rhs; whnf
    clear hE h0
    refine yes_of (want_free rfl) ?_
    go_simp; exact hK _ _ (gb_refl _ _) rfl
  -- 1: chain.go:37 load
  apply told_is
  · intro W f hW hE h0 K hK
    have e12 : f 12 = _ := hE 0 12 _ rfl (by kernel_rfl)
    clear hE h0
    refine yes_of (want_free rfl) ?_
    obtain ⟨z0, z1, z2, z3, z4, z5⟩ := HX.out W (gb_none (gb_refl _ _) (gb_none Hg1.out hW))
    go_simp; exact hK _ _ (gb_refl _ _) rfl
  -- 2: chain.go:37 move
  apply told_is
  · intro W f hW hE h0 K hK
    have e0 := h0 0 (by kernel_rfl)
    conv at e0 => rhs; whnf
    clear hE h0
    refine yes_of (want_free rfl) ?_
    go_simp; exact hK _ _ (gb_refl _ _) rfl
  -- 3: chain.go:37 nilCheck
  apply told_is
  · intro W f hW hE h0 K hK
    have e14 : f 14 = _ := hE 0 14 _ rfl (by kernel_rfl)
    clear hE h0
    refine yes_of (want_free rfl) ?_
    go_simp; exact hK _ _ (gb_refl _ _) rfl
  -- 4: chain.go:37 fieldAddr
  apply told_is
  · intro W f hW hE h0 K hK
    have e15 : f 15 = _ := hE 0 15 _ rfl (by kernel_rfl)
    clear hE h0
    refine yes_of (want_free rfl) ?_
    go_simp; exact hK _ _ (gb_refl _ _) rfl
  -- 5: chain.go:37 load
  apply told_is
  · intro W f hW hE h0 K hK
    have e16 : f 16 = _ := hE 0 16 _ rfl (by kernel_rfl)
    clear hE h0
    refine yes_of (want_free rfl) ?_
    obtain ⟨y0, y1⟩ := HY.out W (gb_none Hg1.out hW)
    go_simp; exact hK _ _ (gb_refl _ _) rfl
  -- 6: chain.go:37 binOp
  apply told_is
  · intro W f hW hE h0 K hK
    have e17 : f 17 = _ := hE 0 17 _ rfl (by kernel_rfl)
    clear hE h0
    refine yes_of (want_free rfl) ?_
    have t1 := Ht1.out
    go_simp; exact hK _ _ (gb_refl _ _) rfl
  -- 7: chain.go:37 binOp
  apply told_is
  · intro W f hW hE h0 K hK
    have e13 : f 13 = _ := hE 5 13 _ rfl (by kernel_rfl)
    have e18 : f 18 = _ := hE 0 18 _ rfl (by kernel_rfl)
    clear hE h0
    refine yes_of (want_free rfl) ?_
    go_simp; exact hK _ _ (gb_refl _ _) rfl
  -- 8: chain.go:37 assign
  apply told_is
  · intro W f hW hE h0 K hK
    have e19 : f 19 = _ := hE 0 19 _ rfl (by kernel_rfl)
    clear hE h0
    refine yes_of (want_free rfl) ?_
    go_simp; exact hK _ _ (gb_refl _ _) rfl
  intro W f hW hA
  simp only [lexIn, Act.put, List.setIfInBounds_toArray, List.set_cons_zero, List.set_cons_succ]
  have e11 : f 11 = _ := hA 0 (some 11) _ rfl
  rw [e11]
  clear hA
  have Hg3 := Lib.hid (gb_none Hg1.out hW)
  clear hW
  generalize W = w3 at *
  go_upto_region 5 with fail
  apply wp_region_told (le := fun a b => a.grownBy b none) [isV _, isV _, isV _, isV _, isV _, isV _, isV _, isV _]
  case hn => rfl
  case hm => kernel_rfl
  case hB => kernel_rfl
  case ht => exact fun _ _ _ h k => gb_none h k
  case hw => exact gb_drew (gb_refl _ _)
  -- 0: chain.go:39 fieldAddr
  apply told_is
  · intro W f hW hE h0 K hK
    have e3 := h0 3 (by kernel_rfl)
    conv at e3 => rhs; whnf
    clear hE h0
    refine yes_of (want_free rfl) ?_
    go_simp; exact hK _ _ (gb_refl _ _) rfl
  -- 1: chain.go:39 load
  apply told_is
  · intro W f hW hE h0 K hK
    have e26 : f 26 = _ := hE 0 26 _ rfl (by kernel_rfl)
    clear hE h0
    refine yes_of (want_free rfl) ?_
    obtain ⟨z0, z1, z2, z3, z4, z5⟩ := HX.out W (gb_none (gb_refl _ _) (gb_none Hg3.out hW))
    go_simp; exact hK _ _ (gb_refl _ _) rfl
  -- 2: chain.go:39 move
  apply told_is
  · intro W f hW hE h0 K hK
    have e0 := h0 0 (by kernel_rfl)
    conv at e0 => rhs; whnf
    clear hE h0
    refine yes_of (want_free rfl) ?_
    go_simp; exact hK _ _ (gb_refl _ _) rfl
  -- 3: chain.go:39 nilCheck
  apply told_is
  · intro W f hW hE h0 K hK
    have e28 : f 28 = _ := hE 0 28 _ rfl (by kernel_rfl)
    clear hE h0
    refine yes_of (want_free rfl) ?_
    go_simp; exact hK _ _ (gb_refl _ _) rfl
  -- 4: chain.go:39 fieldAddr
  apply told_is
  · intro W f hW hE h0 K hK
    have e29 : f 29 = _ := hE 0 29 _ rfl (by kernel_rfl)
    clear hE h0
    refine yes_of (want_free rfl) ?_
    go_simp; exact hK _ _ (gb_refl _ _) rfl
  -- 5: chain.go:39 load
  apply told_is
  · intro W f hW hE h0 K hK
    have e30 : f 30 = _ := hE 0 30 _ rfl (by kernel_rfl)
    clear hE h0
    refine yes_of (want_free rfl) ?_
    obtain ⟨y0, y1⟩ := HY.out W (gb_none Hg3.out hW)
    go_simp; exact hK _ _ (gb_refl _ _) rfl
  -- 6: chain.go:39 binOp
  apply told_is
  · intro W f hW hE h0 K hK
    have e27 : f 27 = _ := hE 4 27 _ rfl (by kernel_rfl)
    have e31 : f 31 = _ := hE 0 31 _ rfl (by kernel_rfl)
    clear hE h0
    refine yes_of (want_free rfl) ?_
    go_simp; exact hK _ _ (gb_refl _ _) rfl
  -- 7: chain.go:39 assign
  apply told_is
  · intro W f hW hE h0 K hK
    have e32 : f 32 = _ := hE 0 32 _ rfl (by kernel_rfl)
    clear hE h0
    refine yes_of (want_free rfl) ?_
    go_simp; exact hK _ _ (gb_refl _ _) rfl
  intro W f hW hA
  simp only [lexIn, Act.put, List.setIfInBounds_toArray, List.set_cons_zero, List.set_cons_succ]
  have e25 : f 25 = _ := hA 0 (some 25) _ rfl
  rw [e25]
  clear hA
  have Hg5 := Lib.hid (gb_none Hg3.out hW)
  clear hW
  generalize W = w5 at *
  obtain ⟨z0, z1, z2, z3, z4, z5⟩ := HX.out w5 (gb_none (gb_refl _ _) Hg5.out)
  go_wp2_with fail
  refine (HC.out w5 Hg5.out).mono ?_
  rintro e w6 ⟨hres, g6⟩
  rcases hres with ⟨_, rfl⟩ | ⟨h1, _⟩
  rotate_left
  · exact absurd Hct.out h1
  have Hg6 := Lib.hid (gb_none Hg5.out g6)
  clear g6 z0 z1 z2 z3 z4 z5
  obtain ⟨z0, z1, z2, z3, z4, z5⟩ := HX.out w6 (gb_none (gb_refl _ _) Hg6.out)
  have HR6 := Lib.hid (HR.out.kept Hg6.out (by simp))
  have v0 : w6.cell? ⟨b, 0, none⟩ = some (.int .i64 (N : Int)) := (HY.out w6 Hg6.out).1
  have v1 : w6.frozen? ⟨b, 0, none⟩ = false := HR6.out.free 0
  have HR7 := Lib.hid (HR6.out.set_ 0 (.int .i64 r.seq))
  have Hg7 : Hid (W0.grownBy (w6.setCell ⟨b, 0, none⟩ (.int .i64 r.seq)) (some b)) := gb_then (gb_none (gb_refl _ _) Hg6.out) (gb_set1 _ _ _ _)
  go_upto_region 11 with fail
  clear v0 v1 z0 z1 z2 z3 z4 z5
  obtain ⟨w7, hw7⟩ : ∃ w7, w6.setCell ⟨b, 0, none⟩ (.int .i64 r.seq) = w7 := ⟨_, rfl⟩
  rw [hw7] at HR7 Hg7 ⊢
  clear hw7
  obtain ⟨z0, z1, z2, z3, z4, z5⟩ := HX.out w7 Hg7.out
  have HHa := Lib.hid (hash_any r RA rc w7 (HWL.out w7 Hg7.out) Hn.out (HTb.out w7 Hg7.out))
  go_wp2_with fail
  refine HHa.out.mono ?_
  rintro e w8 ⟨rfl, g8⟩
  have HR8 := Lib.hid (HR7.out.kept g8 (by simp))
  have Hg8 := Lib.hid (gb_none Hg7.out g8)
  clear g8 z0 z1 z2 z3 z4 z5 HHa
  have v0 : w8.cell? ⟨b, 1, none⟩ = some (.string (lastH l)) := HR8.out.at_ (i := 1) rfl
  have v1 : w8.frozen? ⟨b, 1, none⟩ = false := HR8.out.free 1
  have HR9 := Lib.hid (HR8.out.set_ 1 (.string (hashB r)))
  have Hgb0 : Hid (W0.grownBy (w8.setCell ⟨b, 1, none⟩ (.string (hashB r))) (some b)) := gb_then Hg8.out (gb_set1 _ _ _ _)
  go_upto_region 12 with fail
  clear v0 v1
  obtain ⟨w9, hw9⟩ : ∃ w9, w8.setCell ⟨b, 1, none⟩ (.string (hashB r)) = w9 := ⟨_, rfl⟩
  rw [hw9] at HR9 Hgb0 ⊢
  have Hgb := Hgb0
  clear hw9 Hgb0
  have bk : (d : Int) < 8 := by have := Hd8.out; omega
  apply wp_region_told_list (le := fun a b => a.grownBy b none) 9 [isV _, isV _, isV _, isV _, isV _, isV _, isV _, isV _, isV _]
  case hC => kernel_rfl
  case hlen => rfl
  case hn => rfl
  case hm => kernel_rfl
  case hB => kernel_rfl
  case ht => exact fun _ _ _ h k => gb_none h k
  case hw => exact gb_drew (gb_refl _ _)
  -- 0: chain.go:47 move
  apply head_is
  · intro W f hW hE h0 K hK
    have e0 := h0 0 (by kernel_rfl)
    conv at e0 => rhs; whnf
    clear hE h0
    refine yes_of (want_free rfl) ?_
    go_simp; exact hK _ _ (gb_refl _ _) rfl
  -- 1: chain.go:47 fieldAddr
  apply head_is
  · intro W f hW hE h0 K hK
    have e3 := h0 3 (by kernel_rfl)
    conv at e3 => rhs; whnf
    clear hE h0
    refine yes_of (want_free rfl) ?_
    go_simp; exact hK _ _ (gb_refl _ _) rfl
  -- 2: chain.go:47 load
  apply head_is
  · intro W f hW hE h0 K hK
    have e63 : f 63 = _ := hE 0 63 _ rfl (by kernel_rfl)
    clear hE h0
    refine yes_of (want_free rfl) ?_
    obtain ⟨z0, z1, z2, z3, z4, z5⟩ := HX.out W (gb_none Hgb.out hW)
    rw [Hd.out] at z3
    go_simp; exact hK _ _ (gb_refl _ _) rfl
  -- 3: chain.go:47 fieldAddr
  apply head_is
  · intro W f hW hE h0 K hK
    have e3 := h0 3 (by kernel_rfl)
    conv at e3 => rhs; whnf
    clear hE h0
    refine yes_of (want_free rfl) ?_
    go_simp; exact hK _ _ (gb_refl _ _) rfl
  -- 4: chain.go:47 load
  apply head_is
  · intro W f hW hE h0 K hK
    have e65 : f 65 = _ := hE 0 65 _ rfl (by kernel_rfl)
    clear hE h0
    refine yes_of (want_free rfl) ?_
    obtain ⟨z0, z1, z2, z3, z4, z5⟩ := HX.out W (gb_none Hgb.out hW)
    rw [Hd.out] at z3
    go_simp; exact hK _ _ (gb_refl _ _) rfl
  -- 5: chain.go:47 binOp
  apply head_is
  · intro W f hW hE h0 K hK
    have e66 : f 66 = _ := hE 0 66 _ rfl (by kernel_rfl)
    clear hE h0
    refine yes_of (want_free rfl) ?_
    go_simp; exact hK _ _ (gb_refl _ _) rfl
  -- 6: chain.go:47 nilCheck
  apply head_is
  · intro W f hW hE h0 K hK
    have e62 : f 62 = _ := hE 5 62 _ rfl (by kernel_rfl)
    clear hE h0
    refine yes_of (want_free rfl) ?_
    go_simp; exact hK _ _ (gb_refl _ _) rfl
  -- 7: chain.go:47 fieldAddr
  apply head_is
  · intro W f hW hE h0 K hK
    have e68 : f 68 = _ := hE 0 68 _ rfl (by kernel_rfl)
    clear hE h0
    refine yes_of (want_free rfl) ?_
    go_simp; exact hK _ _ (gb_refl _ _) rfl
  -- 8: chain.go:47 indexAddr
  apply head_is
  · intro W f hW hE h0 K hK
    have e69 : f 69 = _ := hE 0 69 _ rfl (by kernel_rfl)
    have e64 : f 64 = _ := hE 5 64 _ rfl (by kernel_rfl)
    clear hE h0
    refine yes_of (want_free rfl) ?_
    go_simp; exact hK _ _ (gb_refl _ _) rfl
  intro W f hW hA
  simp only [List.take_succ_cons, List.take_zero, List.drop_succ_cons, List.drop_zero, lexIn, Act.put, List.setIfInBounds_toArray, List.set_cons_zero, List.set_cons_succ]
  have e67 : f 67 = _ := hA 3 (some 67) _ rfl
  rw [e67]
  have e70 : f 70 = _ := hA 0 (some 70) _ rfl
  rw [e70]
  clear hA
  clear bk
  obtain ⟨qk, hqk⟩ : ∃ qk, (r.kind == 1) = qk := ⟨_, rfl⟩
  have Hqk : Hid (decide (r.kind = 1) = qk) := by
    show _ = _
    rw [← hqk]
    by_cases h : r.kind = 1
    · rw [eq_yes h, decide_eq_true h]
    · rw [eq_no h, decide_eq_false h]
  have HRw := Lib.hid (HR9.out.kept hW (by simp))
  have v0 : W.cell? ⟨b, 2 + d, none⟩ = some (.bool (memL l (d : Int))) := by
    rw [HRw.out.get]
    have h0 := tail_get l d Hd8.out
    rw [Array.getElem?_setIfInBounds, if_neg (by omega), Array.getElem?_setIfInBounds, if_neg (by omega)]
    exact h0
  have v1 : W.frozen? ⟨b, 2 + d, none⟩ = false := HRw.out.free (2 + d)
  have HRz : Hid (Row (W.setCell ⟨b, 2 + d, none⟩ (.bool qk)) b 74 (tailCs (l ++ [r]))) := by
    have h0 := HRw.out.set_ (2 + d) (.bool qk)
    rw [← Hqk.out, tail_next Hd8.out Hd.out Hsq.out] at h0
    rw [← Hqk.out]
    exact h0
  have Hgz : Hid (w.grownBy (W.setCell ⟨b, 2 + d, none⟩ (.bool qk)) (some b)) := gb_then (gb_none (gb_refl _ _) HG.out) (gb_then (gb_none Hgb.out hW) (gb_set1 _ _ _ _))
  clear hW
  go_wp2_with fail
  go_ret
  exact ⟨rfl, HRz.out, Hgz.out⟩
end Go.Proofs.YtdlafgkiddhejaaGreatDoor.Mb
