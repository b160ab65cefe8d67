/- Records held against one another, the program's way and the document's. Written by gen_mbsame.py. -/
import Derived.Test.YtpcjbjpofcdjeaaGreatDoorMbMayq
set_option linter.unusedVariables false
set_option maxHeartbeats 40000000
set_option maxRecDepth 100000
namespace Go.Proofs.YtpcjbjpofcdjeaaGreatDoor.Mb
open Go Go.RowKit Mm Td Vw Dt
attribute [local go_sem] Td.upon_value Td.upon_skip Td.upon_enter Td.upon_row Td.look_tmp Td.look_const Td.look_func Td.look_global
theorem wrapT_fields : Tryz.prog.underlying 70 = some (.struct (Tryz.prog.fieldsOf 70)) := by kernel_rfl
theorem wrapT_stood : Tryz.prog.stoodInHeld 70 = false := by kernel_rfl
theorem wrapT_guard : Tryz.prog.eqGuardType Tryz.prog.depth 70 = false := by kernel_rfl
theorem bytes_iff (a b : ByteArray) : (a.toList == b.toList) = true ↔ a = b := by
 rw [ByteArray.toList_eq, ByteArray.toList_eq, beq_iff_eq]
 exact ⟨fun h => ByteArray.ext (Array.ext' h), fun h => by rw [h]⟩
def eqW (x y : Wp) : Bool := x.d == y.d && x.box.toList == y.box.toList
theorem eqW_iff (x y : Wp) : eqW x y = true ↔ x = y := by
 unfold eqW
 rw [Bool.and_eq_true, bytes_iff, beq_iff_eq]
 obtain ⟨a, b⟩ := x
 obtain ⟨c, d⟩ := y
 exact ⟨fun h => by dsimp only at h; rw [h.1, h.2], fun h => by injection h with h1 h2; exact ⟨h1, h2⟩⟩
theorem wrapT_eq (x y : Wp) (W : World) : (Op.equalIn 10000 70 (.agg #[.int .i64 x.d, .string x.box]) (.agg #[.int .i64 y.d, .string y.box])).run Tryz.prog W = .ok (eqW x y) W := by
 rw [run_equalIn_struct W 9999 _ _ _ wrapT_fields wrapT_stood]
 have hf : (Tryz.prog.fieldsOf 70).toList.map (fun f => (f.name == "_", f.type, f.offset)) = [(false, 3, 0), (false, 9, 1)] := by kernel_rfl
 generalize (Tryz.prog.fieldsOf 70).toList = fs at hf
 obtain ⟨f0, f1, rfl⟩ : ∃ f0 f1, fs = [f0, f1] := by
  rcases fs with _ | ⟨f0, _ | ⟨f1, _ | ⟨f2, r⟩⟩⟩
  ·simp at hf
  ·simp at hf
  ·exact ⟨f0, f1, rfl⟩
  ·simp at hf
 simp only [List.map_cons, List.map_nil, List.cons.injEq, Prod.mk.injEq, and_true, beq_eq_false_iff_ne] at hf
 obtain ⟨⟨n0, t0, o0⟩, n1, t1, o1⟩ := hf
 have hp : Tryz.prog.plainKey 3 = true := by kernel_rfl
 have hs : Tryz.prog.plainKey 9 = true := by kernel_rfl
 have p0 : ∀ (a b : Value), (part 3 #[a, b] 0).run Tryz.prog W = .ok a W := fun a b => run_part_plain W hp rfl
 have p1 : ∀ (a b : Value), (part 9 #[a, b] 1).run Tryz.prog W = .ok b W := fun a b => run_part_plain W hs rfl
 have q : ∀ a b : Int, (Op.equalIn 9999 3 (.int .i64 a) (.int .i64 b)).run Tryz.prog W = .ok (a == b) W := fun a b => run_equalIn_int W 9998 3 .i64 .i64 a b Tryz.underlying3
 have qs : ∀ a b : ByteArray, (Op.equalIn 9999 9 (.string a) (.string b)).run Tryz.prog W = .ok (a.toList == b.toList) W := fun a b => run_equalIn_string W 9998 9 a b Tryz.underlying9
 unfold eqW
 cases h1 : (x.d == y.d) <;> cases h2 : (x.box.toList == y.box.toList) <;>
  simp only [Op.eqFields, n0, t0, o0, n1, t1, o1, p0, p1, q, qs, h1, h2, Sem.run_bind, Sem.run_pure, Result.andThen_ok, ne_eq, not_false_eq_true, if_true, if_false, Bool.not_true, Bool.not_false, Bool.false_eq_true, Bool.true_and, Bool.false_and, Bool.and_self]
theorem wrapT_neq (x y : Wp) (W : World) : (binOp .neq 70 (.agg #[.int .i64 x.d, .string x.box]) (.agg #[.int .i64 y.d, .string y.box])).run Tryz.prog W = .ok (.bool (!eqW x y)) W := by
 rw [run_neq_struct, wrapT_eq x y W]; rfl
theorem rec_ext {a b : Rc} (h1 : a.seq = b.seq) (h2 : a.prev = b.prev) (h3 : a.kind = b.kind) (h4 : a.dev = b.dev) (h5 : a.wraps = b.wraps) (h6 : a.tag = b.tag) : a = b := by
 obtain ⟨a1, a2, a3, a4, a5, a6⟩ := a
 obtain ⟨b1, b2, b3, b4, b5, b6⟩ := b
 dsimp only at h1 h2 h3 h4 h5 h6
 rw [h1, h2, h3, h4, h5, h6]
theorem wrapsEq_any (A B : Option Addr) (n c m d : Nat) (p q : List Wp) (w : World) (ha : WL w A n p) (hb : WL w B m q) (hn : n ≤ 1099511627776) :
  Calls Tryz.prog 152 #[.slice A n c, .slice B m d] w (BoolIs (p = q) w) := by
 have Ha := qj ha
 have Hb := qj hb
 clear ha hb
 by_cases hnm : n = m
 ·subst hnm
  have e0 : ((n : Int) != (n : Int)) = false := by simp
  go_enter Tryz.func152, Tryz.ntmps152
  go_wp2_with fail
  go_loopw [13] (fun i wr => ∃ k : Nat, k ≤ n ∧ i = .int .i64 k ∧ Hid (p.take k = q.take k) ∧ Gn w wr) (fun i _ => n - (intOf i).toNat)
  case atStart => exact ⟨0, Nat.zero_le _, rfl, by show _ = _; rfl, gb_refl _ _⟩
  case round =>
   obtain ⟨k, hk, rfl, HX, hg⟩ := hrel
   by_cases hlt : k < n
   ·have d1 : decide (k < n) = true := decide_eq_true hlt
    have d2 : decide ((k : Int) < (n : Int)) = true := dcT
    have bk : (k : Int) < (n : Int) := by omega
    have hA := Ha.out.keep hg
    have hB := Hb.out.keep hg
    obtain ⟨g, o, rfl, hgl, _⟩ := hA.2 (by omega)
    obtain ⟨g', o', rfl, hgl', _⟩ := hB.2 (by omega)
    obtain ⟨x, hx⟩ : ∃ x, p[k]? = some x := ⟨_, List.getElem?_eq_getElem (by rw [Ha.out.1]; exact hlt)⟩
    obtain ⟨y, hy⟩ : ∃ y, q[k]? = some y := ⟨_, List.getElem?_eq_getElem (by rw [Hb.out.1]; exact hlt)⟩
    obtain ⟨_, h0, h1⟩ := wl_of hA hx
    obtain ⟨_, i0, i1⟩ := wl_of hB hy
    have Hx := qj hx
    have Hy := qj hy
    clear hA hB hx hy
    have hq := fun (W : World) => wrapT_neq x y W
    have hG := wrapT_guard
    have hT := take_snoc Hx.out
    have hT2 := take_snoc Hy.out
    by_cases hxy : x = y
    ·have he : eqW x y = true := (eqW_iff x y).2 hxy
     have Hnext : Hid (p.take (k + 1) = q.take (k + 1)) := by show _ = _; rw [hT, hT2, HX.out, hxy]
     rw [he] at hq
     clear hT hT2 hxy he
     go_wp2_with fail
     go_quiet (fail)
     go_wp2_with fail
     go_roundw
     case rel => exact ⟨k + 1, by omega, by go_num, Hnext, gb_drewN hg _⟩
     case measure => simp [intOf]; omega
    ·have he : eqW x y = false := by
      cases h : eqW x y with
      | false => rfl
      | true => exact absurd ((eqW_iff x y).1 h) hxy
     have Hno : Hid (p ≠ q) := fun h => hxy (by
       have h1 := Hx.out
       rw [h, Hy.out] at h1
       exact (Option.some.inj h1).symm)
     rw [he] at hq
     clear hT hT2 hxy he
     go_wp2_with fail
     go_quiet (fail)
     go_wp2_with fail
     go_ret
     exact .of_no Hno.out (gb_drewN hg _)
   ·have hkn : k = n := by omega
    subst hkn
    have d1 : decide (k < k) = false := by simp
    have d2 : decide ((k : Int) < (k : Int)) = false := by simp
    have He : Hid (p = q) := by
     show p = q
     have h := HX.out
     rwa [List.take_of_length_le (by rw [Ha.out.1]; exact Nat.le_refl _), List.take_of_length_le (by rw [Hb.out.1]; exact Nat.le_refl _)] at h
    go_wp2_with fail
    go_ret
    exact .of_yes He.out hg
 ·have e0 : ((n : Int) != (m : Int)) = true := by rw [bne_iff_ne]; omega
  have Hno : Hid (p ≠ q) := fun h => hnm (by rw [← Ha.out.1, ← Hb.out.1, h])
  clear hnm
  go_enter Tryz.func152, Tryz.ntmps152
  go_wp2_with fail
  go_ret
  exact .of_no Hno.out (gb_refl _ _)
theorem fs_eq (_ : True) (x y : Int) : (True ∧ (x == y) = true ∧ (x != y) = false ∧ x = y) ∨ (True ∧ (x == y) = false ∧ (x != y) = true ∧ x ≠ y) := by
 by_cases h : x = y
 ·exact .inl ⟨trivial, eq_yes h, by rw [bne, eq_yes h]; rfl, h⟩
 ·exact .inr ⟨trivial, eq_no h, by rw [bne, eq_no h]; rfl, h⟩
theorem fs_tx (_ : True) (x y : ByteArray) : (True ∧ (x.toList == y.toList) = true ∧ (x.toList != y.toList) = false ∧ x = y) ∨ (True ∧ (x.toList == y.toList) = false ∧ (x.toList != y.toList) = true ∧ x ≠ y) := by
 by_cases h : x = y
 ·exact .inl ⟨trivial, str_eq h, by rw [bne, str_eq h]; rfl, h⟩
 ·exact .inr ⟨trivial, str_ne h, by rw [bne, str_ne h]; rfl, h⟩
theorem same_any (a b : Rc) (A B : Option Addr) (c d : Nat) (w : World) (ha : WL w A a.wraps.length a.wraps) (hb : WL w B b.wraps.length b.wraps) (hn : a.wraps.length ≤ 1099511627776) :
  Calls Tryz.prog 123 #[.agg (recCs a A c), .agg (recCs b B d)] w (BoolIs (a = b) w) := by
 obtain ⟨b0, hb0⟩ := nmd (w.heap.size)
 obtain ⟨b1, hb1⟩ := nmd (b0 + 1)
 obtain ⟨W0, hW0⟩ := nmd ((w.alloc (.cells (recCs a A c) 25)).alloc (.cells (recCs b B d) 25))
 have G0 : Gn w W0 := by rw [← hW0]; exact gb_alloc (gb_alloc (gb_refl _ _) _) _
 have hr0 : Row W0 b0 25 (recCs a A c) := by rw [← hW0, ← hb0]; exact (Row.new _ _ _).alloc _
 have hr1 : Row W0 b1 25 (recCs b B d) := by
  rw [← hW0, ← hb1, ← hb0]
  have h := Row.new (w.alloc (.cells (recCs a A c) 25)) 25 (recCs b B d)
  rwa [World.size_alloc] at h
 have HC : Hid (∀ W, Gn W0 W → RecC0 W b0 a A c ∧ RecC0 W b1 b B d) := fun W hW => ⟨rec_row (hr0.kept hW (by simp)), rec_row (hr1.kept hW (by simp))⟩
 have Ha := qj (ha.keep G0)
 have Hb := qj (hb.keep G0)
 have HG := qj G0
 obtain ⟨⟨y0, y1, y2, y3, y4, y5⟩, z0, z1, z2, z3, z4, z5⟩ := HC.out W0 (gb_refl _ _)
 clear hr0 hr1 ha hb G0
 have HQ : Hid (Calls Tryz.prog 152 #[.slice A a.wraps.length c, .slice B b.wraps.length d] W0 (BoolIs (a.wraps = b.wraps) W0)) := wrapsEq_any A B a.wraps.length c b.wraps.length d a.wraps b.wraps W0 Ha.out Hb.out hn
 have go : True := trivial
 all_goals try (replace go := fs_eq go a.seq b.seq; rcases go with ⟨go, h1e, h1n, h1⟩ | ⟨-, h1e, h1n, h1⟩)
 all_goals try (replace go := fs_tx go a.prev b.prev; rcases go with ⟨go, h2e, h2n, h2⟩ | ⟨-, h2e, h2n, h2⟩)
 all_goals try (replace go := fs_eq go a.kind b.kind; rcases go with ⟨go, h3e, h3n, h3⟩ | ⟨-, h3e, h3n, h3⟩)
 all_goals try (replace go := fs_eq go a.dev b.dev; rcases go with ⟨go, h4e, h4n, h4⟩ | ⟨-, h4e, h4n, h4⟩)
 all_goals try (have cl := go; clear go; have go := cl; by_cases h5 : a.wraps = b.wraps; (case' pos => have H5 := qj h5); (case' neg => have H5 := qj h5; clear go))
 all_goals try (replace go := fs_tx go a.tag b.tag; rcases go with ⟨go, h6e, h6n, h6⟩ | ⟨-, h6e, h6n, h6⟩)
 all_goals
  first | (have HE : Hid (a = b) := (by cases go; exact rec_ext h1 h2 h3 h4 h5 h6)) | (have HE : Hid (a ≠ b) := (fun e => by subst e; first | exact absurd rfl h1 | exact absurd rfl h2 | exact absurd rfl h3 | exact absurd rfl h4 | exact absurd rfl h5 | exact absurd rfl h6 | exact absurd rfl h7))
  try clear h1
  try clear h2
  try clear h3
  try clear h4
  try clear h5
  try clear h6
  try clear h7
  go_enter Tryz.func123, Tryz.ntmps123
  go_upto_region 1 with fail
  clear hW0 hb0 hb1
  go_wp2_with fail
  try (cases cl; refine HQ.out.mono ?_; intro e w1 hh; (first | have hq := hh.yes H5.out | have hq := hh.no H5.out); obtain ⟨he, g1⟩ := hq)
  try (subst he; clear hh y0 y1 y2 y3 y4 y5 z0 z1 z2 z3 z4 z5; obtain ⟨⟨y0, y1, y2, y3, y4, y5⟩, z0, z1, z2, z3, z4, z5⟩ := HC.out w1 g1; replace HG := qj (gb_none HG.out g1); clear g1; go_wp2_with fail)
  go_ret
  first | exact .of_yes HE.out HG.out | exact .of_no HE.out HG.out
theorem refSame_any (a b : Rc) (A B : Option Addr) (c d : Nat) (w : World) (ha : WL w A a.wraps.length a.wraps) (hb : WL w B b.wraps.length b.wraps) (hn : a.wraps.length ≤ 1099511627776) :
  Calls Tryz.prog 18 #[.agg (recCs a A c), .agg (recCs b B d)] w (BoolIs (a = b) w) := by
 obtain ⟨b0, hb0⟩ := nmd (w.heap.size)
 obtain ⟨b1, hb1⟩ := nmd (b0 + 1)
 obtain ⟨W0, hW0⟩ := nmd ((w.alloc (.cells (recCs a A c) 25)).alloc (.cells (recCs b B d) 25))
 have G0 : Gn w W0 := by rw [← hW0]; exact gb_alloc (gb_alloc (gb_refl _ _) _) _
 have hr0 : Row W0 b0 25 (recCs a A c) := by rw [← hW0, ← hb0]; exact (Row.new _ _ _).alloc _
 have hr1 : Row W0 b1 25 (recCs b B d) := by
  rw [← hW0, ← hb1, ← hb0]
  have h := Row.new (w.alloc (.cells (recCs a A c) 25)) 25 (recCs b B d)
  rwa [World.size_alloc] at h
 have HC : Hid (∀ W, Gn W0 W → RecC0 W b0 a A c ∧ RecC0 W b1 b B d) := fun W hW => ⟨rec_row (hr0.kept hW (by simp)), rec_row (hr1.kept hW (by simp))⟩
 have Ha := qj (ha.keep G0)
 have Hb := qj (hb.keep G0)
 have HG := qj G0
 obtain ⟨⟨y0, y1, y2, y3, y4, y5⟩, z0, z1, z2, z3, z4, z5⟩ := HC.out W0 (gb_refl _ _)
 clear hr0 hr1 ha hb G0
 have go : True := trivial
 all_goals try (replace go := fs_eq go a.seq b.seq; rcases go with ⟨go, h1e, h1n, h1⟩ | ⟨-, h1e, h1n, h1⟩)
 all_goals try (replace go := fs_tx go a.prev b.prev; rcases go with ⟨go, h2e, h2n, h2⟩ | ⟨-, h2e, h2n, h2⟩)
 all_goals try (replace go := fs_eq go a.kind b.kind; rcases go with ⟨go, h3e, h3n, h3⟩ | ⟨-, h3e, h3n, h3⟩)
 all_goals try (replace go := fs_eq go a.dev b.dev; rcases go with ⟨go, h4e, h4n, h4⟩ | ⟨-, h4e, h4n, h4⟩)
 all_goals try (replace go := fs_tx go a.tag b.tag; rcases go with ⟨go, h6e, h6n, h6⟩ | ⟨-, h6e, h6n, h6⟩)
 all_goals try (replace go := fs_eq go (a.wraps.length : Int) (b.wraps.length : Int); rcases go with ⟨go, h7e, h7n, h7⟩ | ⟨-, h7e, h7n, h7⟩)
 case' inl =>
  cases go
  replace h7 : a.wraps.length = b.wraps.length := by omega
  have HE : Hid (a.wraps = b.wraps → a = b) := fun h5 => rec_ext h1 h2 h3 h4 h5 h6
  have HF : Hid (a.wraps ≠ b.wraps → a ≠ b) := fun h5 e => h5 (by rw [e])
  obtain ⟨n, hnn⟩ := nmd (a.wraps.length)
  have hnb : b.wraps.length = n := by rw [← h7]; exact hnn
  rw [hnn, hnb] at h7n h7e
  simp only [RecC0, hnn, hnb] at HC Ha Hb y4 z4 hW0 hn ⊢
  have h7n : ((n : Int) != (n : Int)) = false := by simp
  generalize a.wraps = p at *
  generalize b.wraps = q at *
  clear h1 h2 h3 h4 h6 h7 hnn hnb h7n h7e
  have h7n : ((n : Int) != (n : Int)) = false := by simp
  go_enter Tryz.func18, Tryz.ntmps18
  go_upto_region 1 with fail
  clear hW0 hb0 hb1
  go_wp2_with fail
  clear y0 y1 y2 y3 y4 y5 z0 z1 z2 z3 z4 z5
  go_loopw [5] (fun i wr => ∃ k : Nat, k ≤ n ∧ i = .int .i64 k ∧ Hid (p.take k = q.take k) ∧ Gn W0 wr) (fun i _ => n - (intOf i).toNat)
  case atStart => exact ⟨0, Nat.zero_le _, rfl, by show _ = _; rfl, gb_refl _ _⟩
  case round =>
   obtain ⟨k, hk, rfl, HX, hg⟩ := hrel
   obtain ⟨⟨y0, y1, y2, y3, y4, y5⟩, z0, z1, z2, z3, z4, z5⟩ := HC.out wr hg
   by_cases hlt : k < n
   ·have d1 : decide (k < n) = true := decide_eq_true hlt
    have d2 : decide ((k : Int) < (n : Int)) = true := dcT
    have bk : (k : Int) < (n : Int) := by omega
    have hA := Ha.out.keep hg
    have hB := Hb.out.keep hg
    obtain ⟨g, o, rfl, hgl, _⟩ := hA.2 (by omega)
    obtain ⟨g', o', rfl, hgl', _⟩ := hB.2 (by omega)
    obtain ⟨x, hx⟩ : ∃ x, p[k]? = some x := ⟨_, List.getElem?_eq_getElem (by rw [Ha.out.1]; exact hlt)⟩
    obtain ⟨y, hy⟩ : ∃ y, q[k]? = some y := ⟨_, List.getElem?_eq_getElem (by rw [Hb.out.1]; exact hlt)⟩
    obtain ⟨_, h0, h1⟩ := wl_of hA hx
    obtain ⟨_, i0, i1⟩ := wl_of hB hy
    have Hx := qj hx
    have Hy := qj hy
    clear hA hB hx hy
    have hq := fun (W : World) => wrapT_neq x y W
    have hG := wrapT_guard
    have hT := take_snoc Hx.out
    have hT2 := take_snoc Hy.out
    by_cases hxy : x = y
    ·have he : eqW x y = true := (eqW_iff x y).2 hxy
     have Hnext : Hid (p.take (k + 1) = q.take (k + 1)) := by show _ = _; rw [hT, hT2, HX.out, hxy]
     rw [he] at hq
     clear hT hT2 hxy he
     go_wp2_with fail
     go_quiet (fail)
     go_wp2_with fail
     go_roundw
     case rel => exact ⟨k + 1, by omega, by go_num, Hnext, gb_drewN hg _⟩
     case measure => simp [intOf]; omega
    ·have he : eqW x y = false := by
      cases h : eqW x y with
      | false => rfl
      | true => exact absurd ((eqW_iff x y).1 h) hxy
     have Hno : Hid (p ≠ q) := fun h => hxy (by
       have h1 := Hx.out
       rw [h, Hy.out] at h1
       exact (Option.some.inj h1).symm)
     rw [he] at hq
     clear hT hT2 hxy he
     go_wp2_with fail
     go_quiet (fail)
     go_wp2_with fail
     go_ret
     exact .of_no (HF.out Hno.out) (gb_drewN (gb_none HG.out hg) _)
   ·have hkn : k = n := by omega
    subst hkn
    have d1 : decide (k < k) = false := by simp
    have d2 : decide ((k : Int) < (k : Int)) = false := by simp
    have He : Hid (p = q) := by
     show p = q
     have h := HX.out
     rwa [List.take_of_length_le (by rw [Ha.out.1]; exact Nat.le_refl _), List.take_of_length_le (by rw [Hb.out.1]; exact Nat.le_refl _)] at h
    go_wp2_with fail
    go_ret
    exact .of_yes (HE.out He.out) (gb_none HG.out hg)
 all_goals
  have HE : Hid (a ≠ b) := (fun e => by subst e; first | exact absurd rfl h1 | exact absurd rfl h2 | exact absurd rfl h3 | exact absurd rfl h4 | exact absurd rfl h5 | exact absurd rfl h6 | exact absurd rfl h7)
  try clear h1
  try clear h2
  try clear h3
  try clear h4
  try clear h5
  try clear h6
  try clear h7
  go_enter Tryz.func18, Tryz.ntmps18
  go_upto_region 1 with fail
  clear hW0 hb0 hb1
  go_wp2_with fail
  go_ret
  exact .of_no HE.out HG.out
end Go.Proofs.YtpcjbjpofcdjeaaGreatDoor.Mb
