/-
  Proved: whatever values of its parameters' types it is called with, deaddroplaw10.ReadAlone returns true, and each argument reads behind the call as it read before.
  Conditions: none but those of the row itself.
-/
import Derived.Test.YtblndpfgfakdeaaRows
import Derived.WalkKit
import Derived.ProofKit
import Derived.OpenShut
import Derived.ShutString
import Derived.Test.YtblndpfgfakdeaaRdAlP
import Derived.Test.YtblndpfgfakdeaaTold
import Derived.Deep.DeepCutAuto
import Derived.ChangeOld
import Derived.Below
namespace Go.Proofs.Ytblndpfgfakdeaa.readAlone
open Go.ChangeShapes Go.WideShapes Go.ChangeAt Go.RowKit
open Go.ChangeMaps (open_string shut_string)
open Go.Proofs.Ytblndpfgfakdeaa.Mm Go.Proofs.Ytblndpfgfakdeaa.Dt Go.Proofs.Ytblndpfgfakdeaa.Td
set_option linter.unusedVariables false

theorem own : ownKnob Try.prog.godebug = none := by kernel_rfl
theorem laidOut : laidOutB Try.prog = true := by kernel_rfl
/-- What the walk is told of a slice of integers that came in. -/
def IsRow (k : IntKind) (w : World) (a : Option Addr) (len cap : Nat) (zs : List Int) : Prop :=
  (a = none ∧ len = 0 ∧ cap = 0 ∧ zs = []) ∨
  ∃ x, a = some x ∧ len ≤ cap ∧ cap ≤ maxLen ∧ zs.length = cap ∧ (∀ i, i < zs.length → w.cell? (x.add i) = some (.int k (zs.getD i 0))) ∧ ∀ n ∈ zs, (Lit.int k n).wf = true

attribute [local go_sem] Td.upon_value Td.upon_skip Td.upon_enter Td.upon_row Td.look_tmp Td.look_const Td.look_func Td.look_global
theorem mk5 (W : World) : (Instr.makeSlice 64 (.int .i64 5) (.int .i64 5)).run Try.prog W = .ok (.slice (some ⟨W.heap.size, 0, none⟩) 5 5) (W.alloc (.cells #[.bool false, .bool false, .bool false, .bool false, .bool false] 4)) := by
  kernel_rfl
theorem texts_of {l : List Tx} {w w' : World} {e : Ending} {n : Nat} (h : Texts l w e w') (hn : l.length = n) : ∃ A c, e = .returned (.slice A n c) ∧ TL w' A n l ∧ n ≤ c ∧ w.grownBy w' none := by
  obtain ⟨A, c, h1, h2, h3, _, h5⟩ := h
  rw [hn] at h1 h2 h3
  exact ⟨A, c, h1, h2, h3, h5⟩

set_option maxHeartbeats 40000000 in
set_option maxRecDepth 100000 in
theorem walk (a0 : Option Addr) (len0 cap0 : Nat) (z0 : List Int) (w : World) (w0 : IsRow .u8 w a0 len0 cap0 z0) :
    Calls Try.prog 13 #[.slice a0 len0 cap0] w fun e w' => e = .returned (.bool true) ∧ Below w.heap.size w w' := by
  obtain ⟨hnl0, _, _⟩ := nl_of_row w0
  obtain ⟨ns, hns⟩ : ∃ ns, z0.take len0 = ns := ⟨_, rfl⟩
  rw [hns] at hnl0
  clear hns
  by_cases hbig : 80 < len0
  · have d1 : decide (80 < len0) = true := decide_eq_true hbig
    have d2 : decide (80 < (len0 : Int)) = true := decide_eq_true (by omega)
    clear hbig
    go_enter Try.func13, Try.ntmps13
    go_wp2_with (go_at_call 38; refine (awake10_any _).mono ?_; rintro e w9 ⟨rfl, g9⟩)
    go_ret
    exact ⟨rfl, gb_below g9 (Nat.le_refl _)⟩
  · have d1 : decide (80 < len0) = false := decide_eq_false hbig
    have d2 : decide (80 < (len0 : Int)) = false := decide_eq_false (by omega)
    obtain ⟨K, hK⟩ : ∃ K, len0 / 2 = K := ⟨_, rfl⟩
    have HK : Hid (K ≤ 40 ∧ len0 ≤ 80 ∧ ∀ k, k < K ↔ 2 * k + 1 < len0) := ⟨by omega, by omega, fun k => by omega⟩
    obtain ⟨h0, hh0⟩ : ∃ h0, w.heap.size = h0 := ⟨_, rfl⟩
    have Hh0 := Lib.hid hh0
    have Hl := Lib.hid hnl0
    obtain ⟨W0, hW0⟩ : ∃ W0, (w.alloc (.cells #[.slice none 0 0, .slice none 0 0] 26)).alloc (.cells #[.bool false, .bool false, .bool false, .bool false, .bool false] 4) = W0 := ⟨_, rfl⟩
    have G0 : w.grownBy W0 none := by rw [← hW0]; exact gb_alloc (gb_alloc (gb_refl _ _) _) _
    have HR0 : Hid (Row W0 h0 26 #[.slice none 0 0, .slice none 0 0]) := by show Row _ _ _ _; rw [← hW0, ← hh0]; exact (Row.new _ _ _).alloc _
    have HRB : Hid (Row W0 (h0 + 1) 4 (boolsA (List.replicate 5 false))) := by
      show Row _ _ _ _
      rw [← hW0, ← hh0]
      have h := Row.new (w.alloc (.cells #[.slice none 0 0, .slice none 0 0] 26)) 4 #[.bool false, .bool false, .bool false, .bool false, .bool false]
      rw [World.size_alloc] at h
      exact h
    have HG0 := Lib.hid G0
    have hmk := mk5 (w.alloc (.cells #[.slice none 0 0, .slice none 0 0] 26))
    rw [World.size_alloc] at hmk
    clear hbig hK hnl0 w0 G0
    go_enter Try.func13, Try.ntmps13
    go_upto_region 6 with fail
    clear hW0 hh0 hmk d1 d2
    go_wp2_with fail
    go_loopw [7, 4, 5, 6] (fun i tv sv_ iv wr => ∃ (k q : Nat) (A1 B1 : Option Addr) (n1 c1 m1 d1 gi : Nat) (t : Th), q = 2 * k ∧ k ≤ K ∧ i = .int .i64 q ∧ tv = .string t.text ∧ sv_ = .int .i64 t.sum ∧ iv = .slice (some ⟨gi, 0, none⟩) 5 5 ∧ Row wr h0 26 #[.slice A1 n1 c1, .slice B1 m1 d1] ∧ Row wr gi 4 (boolsA t.mem) ∧ w.heap.size ≤ gi ∧ SL wr A1 n1 B1 m1 (aloneK ns k) ∧ n1 ≤ c1 ∧ m1 ≤ d1 ∧ Hid (AlI (aloneK ns k) t) ∧ w.grownBy wr none) (fun i _ _ _ _ => 2 * K - (intOf i).toNat)
    case atStart => exact ⟨0, 0, none, none, 0, 0, 0, 0, h0 + 1, th0, rfl, Nat.zero_le _, rfl, rfl, rfl, rfl, HR0.out, HRB.out, by have := Hh0.out; omega, ⟨RL.none _ _, FL.none _ _⟩, Nat.le_refl _, Nat.le_refl _, al_start, HG0.out⟩
    case round =>
      obtain ⟨k, q, A1, B1, n1, c1, m1, d1, gi, t, hq, hk, rfl, rfl, rfl, rfl, hr1, hrb, hgi, hs, hc1', hd1, Hal0, hg⟩ := hrel
      by_cases hlt : k < K
      · have hin := (HK.out.2.2 k).1 hlt
        have h80 := HK.out.2.1
        obtain ⟨x, hx⟩ : ∃ x, ns[q]? = some x := ⟨_, List.getElem?_eq_getElem (by rw [Hl.out.1]; omega)⟩
        obtain ⟨y, hy⟩ : ∃ y, ns[q + 1]? = some y := ⟨_, List.getElem?_eq_getElem (by rw [Hl.out.1]; omega)⟩
        obtain ⟨g, o, rfl, hgl, hcc⟩ := (Hl.out.keep hg).2.1 (by omega)
        obtain ⟨x0, x1⟩ := Hl.out.2.2 x (List.mem_of_getElem? hx)
        obtain ⟨y0, y1⟩ := Hl.out.2.2 y (List.mem_of_getElem? hy)
        have hc0 := hcc q x hx
        have hc1 := hcc (q + 1) y hy
        have HCs : Hid (∀ W, wr.grownBy W none → W.cell? ⟨g, o + q, none⟩ = some (.int .u8 x) ∧ W.cell? ⟨g, o + (q + 1), none⟩ = some (.int .u8 y)) := fun W hW => ⟨(World.cell?_of_block (a := ⟨g, o + q, none⟩) (hW.block g hgl (by simp))).trans hc0, (World.cell?_of_block (a := ⟨g, o + (q + 1), none⟩) (hW.block g hgl (by simp))).trans hc1⟩
        obtain ⟨aa, haa⟩ : ∃ aa, x % 5 = aa := ⟨_, rfl⟩
        obtain ⟨jj, hjj⟩ : ∃ jj : Nat, y % 5 = (jj : Int) := ⟨(y % 5).toNat, by omega⟩
        obtain ⟨oo, hoo⟩ : ∃ oo, opN aa y = oo := ⟨_, rfl⟩
        have hoi : oo.item = b1 (97 + (jj : Int)) := by rw [← hoo]; show b1 (97 + y % 5) = _; rw [hjj]
        have hok : oo.key = kK := by rw [← hoo]; show b1 (107 + aa / 5 % 3) = _; rw [show aa / 5 % 3 = 0 by omega]; rfl
        have hod : oo.kind = 1 + aa := by rw [← hoo]; show 1 + aa % 5 = _; omega
        have Hoo : Hid (oo.item = b1 (97 + (jj : Int)) ∧ oo.key = kK ∧ 1 ≤ oo.kind ∧ oo.kind ≤ 5) := ⟨hoi, hok, by omega, by omega⟩
        have Hnext : Hid (aloneK ns (k + 1) = stepM (aloneK ns k) 2 oo) := by
          show _ = _
          rw [aloneK, ← hq, List.getD_eq_getElem?_getD, List.getD_eq_getElem?_getD, hx, hy, Option.getD_some, Option.getD_some, haa, hoo]
        have HB0 : Hid ((q : Int) < (len0 : Int)) := by show _ < _; omega
        have HB1 : Hid (((q + 1 : Nat) : Int) < (len0 : Int) ∧ (q : Int) + 1 < (len0 : Int) ∧ 0 ≤ (q : Int) + 1) := ⟨by omega, by omega, by omega⟩
        have Ht1 : Hid (x.tmod 5 = aa) := by show _ = _; rw [Int.tmod_eq_emod_of_nonneg x0, haa]
        have Ht2 : Hid (IntKind.u8.wrap aa = aa) := by show _ = _; rw [IntKind.wrap_u8']; omega
        have Ht6 : Hid (IntKind.i64.wrap ((q : Int) + 1) = ((q + 1 : Nat) : Int)) := by show _ = _; rw [IntKind.wrap_i64]; omega
        have Ht7 : Hid (IntKind.i64.wrap ((q : Int) + 2) = ((q + 2 : Nat) : Int)) := by show _ = _; rw [IntKind.wrap_i64]; omega
        have Hj5 : Hid ((jj : Int) < 5 ∧ jj < 5 ∧ 0 ≤ (jj : Int)) := ⟨by omega, by omega, by omega⟩
        have Hix : Hid (∀ W, (Instr.index 9 (.string oo.item) (.int .i64 0)).run Try.prog W = .ok (.int .u8 (97 + (jj : Int))) W) := fun W => by rw [hoi]; exact index_b1 jj (by omega) W
        have Hsb : Hid (IntKind.u8.wrap (97 + (jj : Int) - 97) = (jj : Int)) := by show _ = _; rw [IntKind.wrap_u8']; omega
        have HO : Hid (∀ W, Calls Try.prog 47 #[.int .u8 aa, .int .u8 y] W fun e w' => e = .returned (.agg #[.int .i64 oo.kind, .string oo.key, .string oo.item, .int .i64 oo.v]) ∧ W.grownBy w' none) := fun W => by rw [← hoo]; exact op_any aa y W (by omega) (by omega) y0 y1
        have hlow := (alone_low ns k).short (alone_may ns k)
        have hov : IntKind.i64.wrap oo.v = oo.v := by rw [← hoo]; show IntKind.i64.wrap (y - 100) = y - 100; rw [IntKind.wrap_i64]; omega
        have Hov := Lib.hid hov
        have hn1 : n1 ≤ 320 := by have := hs.1.1; omega
        have hm1 : m1 ≤ 320 := by have := hs.2.1; omega
        have Hs := Lib.hid hs
        have HRow1 := Lib.hid hr1
        have HRb := Lib.hid hrb
        have Hg := Lib.hid hg
        have Hgi := Lib.hid hgi
        have Hq := Lib.hid hq
        have Hlt := Lib.hid hlt
        have Hnm : Hid (n1 ≤ 320 ∧ m1 ≤ 320) := ⟨hn1, hm1⟩
        have Hcd : Hid (n1 ≤ c1 ∧ m1 ≤ d1) := ⟨hc1', hd1⟩
        have d1' : decide (q + 1 < len0) = true := decide_eq_true (by omega)
        have d2' : decide (((q + 1 : Nat) : Int) < (len0 : Int)) = true := decide_eq_true (by omega)
        have d5' : decide ((q : Int) + 1 < (len0 : Int)) = true := decide_eq_true (by omega)
        have t6 := Ht6.out
        clear h80 hin hcc hc0 hc1 hgl hx hy hoo haa hjj hoi hok hod x0 x1 y0 y1 hs hr1 hrb hg hgi hq hk hlt hn1 hm1 hlow hov hc1' hd1
        go_upto_region 9 with fail
        clear d1' d2' d5' t6
        apply wp_region_told_tail (le := fun a b => a.grownBy b none) 12 _ [isV _, isV _, isV _, isV _, isV _, isV _, isV _, isV _, isV _, isV _, isV _, newB _ 66 #[.int .i64 0, .string ⟨#[]⟩, .string ⟨#[]⟩, .int .i64 0]]
        case hL => rfl
        case hz => rfl
        case hLd => rfl
        case hLg => rfl
        case hLw => kernel_rfl
        case hlen => rfl
        case hn => rfl
        case hm => kernel_rfl
        case hB => kernel_rfl
        case ht => exact fun _ _ _ h k => gb_none h k
        case hw => exact gb_drew (gb_refl _ _)
        -- 0: law.go:52 move
        apply told_is
        · intro W f hW hE h0 K hK
          have e0 := h0 0 (by kernel_rfl)
          conv at e0 => rhs; whnf
          clear hE h0
          refine yes_of (want_free rfl) ?_
          go_simp; exact hK _ _ (gb_refl _ _) rfl
        -- 1: law.go:52 move
        apply told_is
        · intro W f hW hE h0 K hK
          have e7 := h0 7 (by kernel_rfl)
          conv at e7 => rhs; whnf
          clear hE h0
          refine yes_of (want_free rfl) ?_
          go_simp; exact hK _ _ (gb_refl _ _) rfl
        -- 2: law.go:52 indexAddr
        apply told_is
        · intro W f hW hE h0 K hK
          have e26 : f 26 = _ := hE 1 26 _ rfl (by kernel_rfl)
          have e27 : f 27 = _ := hE 0 27 _ rfl (by kernel_rfl)
          clear hE h0
          refine yes_of (want_free rfl) ?_
          have b0 := HB0.out
          go_simp; exact hK _ _ (gb_refl _ _) rfl
        -- 3: law.go:52 load
        apply told_is
        · intro W f hW hE h0 K hK
          have e28 : f 28 = _ := hE 0 28 _ rfl (by kernel_rfl)
          clear hE h0
          refine yes_of (want_free rfl) ?_
          obtain ⟨c0, c1⟩ := HCs.out W hW
          go_simp; exact hK _ _ (gb_refl _ _) rfl
        -- 4: law.go:52 binOp
        apply told_is
        · intro W f hW hE h0 K hK
          have e29 : f 29 = _ := hE 0 29 _ rfl (by kernel_rfl)
          clear hE h0
          refine yes_of (want_free rfl) ?_
          have t1 := Ht1.out; have t2 := Ht2.out
          go_simp; exact hK _ _ (gb_refl _ _) rfl
        -- 5: law.go:52 move
        apply told_is
        · intro W f hW hE h0 K hK
          have e0 := h0 0 (by kernel_rfl)
          conv at e0 => rhs; whnf
          clear hE h0
          refine yes_of (want_free rfl) ?_
          go_simp; exact hK _ _ (gb_refl _ _) rfl
        -- 6: law.go:52 move
        apply told_is
        · intro W f hW hE h0 K hK
          have e7 := h0 7 (by kernel_rfl)
          conv at e7 => rhs; whnf
          clear hE h0
          refine yes_of (want_free rfl) ?_
          go_simp; exact hK _ _ (gb_refl _ _) rfl
        -- 7: law.go:52 binOp
        apply told_is
        · intro W f hW hE h0 K hK
          have e32 : f 32 = _ := hE 0 32 _ rfl (by kernel_rfl)
          clear hE h0
          refine yes_of (want_free rfl) ?_
          have t1 := Ht6.out
          go_simp; exact hK _ _ (gb_refl _ _) rfl
        -- 8: law.go:52 indexAddr
        apply told_is
        · intro W f hW hE h0 K hK
          have e31 : f 31 = _ := hE 2 31 _ rfl (by kernel_rfl)
          have e33 : f 33 = _ := hE 0 33 _ rfl (by kernel_rfl)
          clear hE h0
          refine yes_of (want_free rfl) ?_
          obtain ⟨b0, b1, b2⟩ := HB1.out
          go_simp; exact hK _ _ (gb_refl _ _) rfl
        -- 9: law.go:52 load
        apply told_is
        · intro W f hW hE h0 K hK
          have e34 : f 34 = _ := hE 0 34 _ rfl (by kernel_rfl)
          clear hE h0
          refine yes_of (want_free rfl) ?_
          obtain ⟨c0, c1⟩ := HCs.out W hW
          go_simp; exact hK _ _ (gb_refl _ _) rfl
        -- 10: law.go:52 call
        apply told_is
        · intro W f hW hE h0 K hK
          have e30 : f 30 = _ := hE 5 30 _ rfl (by kernel_rfl)
          have e35 : f 35 = _ := hE 0 35 _ rfl (by kernel_rfl)
          clear hE h0
          refine yes_of (want_free rfl) ?_
          go_simp
          refine (HO.out W).mono ?_
          rintro e w1' ⟨rfl, g⟩
          exact ⟨_, rfl, hK _ _ g rfl⟩
        -- 11: law.go:52 alloc
        apply told_at newB_stays
        · intro W f hW hE h0 K hK
          clear hE h0
          refine yes_of (want_free rfl) ?_
          go_simp
          exact hK _ _ (gb_alloc (gb_refl _ _) _) ⟨_, rfl, hW.size, Row.new _ _ _⟩
        intro W f hW hA
        simp only [lexIn, Act.put, List.setIfInBounds_toArray, List.set_cons_zero, List.set_cons_succ]
        have e36 : f 36 = _ := hA 1 (some 36) _ rfl
        rw [e36]
        have e8 := hA 0 (some 8) _ rfl
        clear hA
        obtain ⟨go, eg, hgN, hr⟩ := e8
        rw [eg]
        have q0 := hr.free 0
        have q1 := hr.free 1
        have q2 := hr.free 2
        have q3 := hr.free 3
        have u0 := hr.at_ (i := 0) rfl
        have u1 := hr.at_ (i := 1) rfl
        have u2 := hr.at_ (i := 2) rfl
        have u3 := hr.at_ (i := 3) rfl
        have k1 := gb_set1 W go 0 (.int .i64 oo.kind)
        have r1 := hr.set_ 0 (.int .i64 oo.kind)
        have k2 := gb_set1 (W.setCell ⟨go, 0, none⟩ (.int .i64 oo.kind)) go 1 (.string oo.key)
        have r2 := r1.set_ 1 (.string oo.key)
        have k3 := gb_set1 ((W.setCell ⟨go, 0, none⟩ (.int .i64 oo.kind)).setCell ⟨go, 1, none⟩ (.string oo.key)) go 2 (.string oo.item)
        have r3 := r2.set_ 2 (.string oo.item)
        have k4 := gb_set1 (((W.setCell ⟨go, 0, none⟩ (.int .i64 oo.kind)).setCell ⟨go, 1, none⟩ (.string oo.key)).setCell ⟨go, 2, none⟩ (.string oo.item)) go 3 (.int .i64 oo.v)
        have r4 := r3.set_ 3 (.int .i64 oo.v)
        have Hr4 := Lib.hid r4
        have Gw := Lib.hid (gb_new (gb_new (gb_new (gb_new hW k1 hgN) k2 hgN) k3 hgN) k4 hgN)
        clear hgN hW k1 k2 k3 k4 r1 r2 r3 r4
        rw [ends_is]
        go_simp
        clear q0 q1 q2 q3 u0 u1 u2 u3 hr
        go_upto_region 10 with fail
        refine Td.named (fun W' => wr.grownBy W' none ∧ Row W' go 66 #[.int .i64 oo.kind, .string oo.key, .string oo.item, .int .i64 oo.v]) ⟨Gw.out, Hr4.out⟩ ?_
        rintro W8 ⟨hg8, hrow8⟩
        clear Gw Hr4
        have HG8 := Lib.hid hg8
        have Hrow8 := Lib.hid hrow8
        have p0 := hrow8.at_ (i := 0) rfl
        have p1 := hrow8.at_ (i := 1) rfl
        have p2 := hrow8.at_ (i := 2) rfl
        have p3 := hrow8.at_ (i := 3) rfl
        have v0 := (HRow1.out.kept hg8 (by simp)).at_ (i := 0) rfl
        have v1 := (HRow1.out.kept hg8 (by simp)).at_ (i := 1) rfl
        obtain ⟨E, hE⟩ : ∃ E, (doS (aloneK ns k) 2 oo).2 = E := ⟨_, rfl⟩
        obtain ⟨D, hD⟩ : ∃ D, (doS (aloneK ns k) 2 oo).1 = D := ⟨_, rfl⟩
        have HE := Lib.hid hE
        have HDd := Lib.hid hD
        have HD : Hid (Calls Try.prog 48 #[.agg #[.slice A1 n1 c1, .slice B1 m1 d1], .int .i64 2, .agg #[.int .i64 oo.kind, .string oo.key, .string oo.item, .int .i64 oo.v]] W8 (fun e w' => ∃ A n c B m d, e = .returned (.agg #[.slice A n c, .slice B m d, .int .i64 E]) ∧ SL w' A n B m D ∧ n ≤ c ∧ m ≤ d ∧ W8.grownBy w' none)) := by
          have h := refDo_any A1 B1 n1 c1 m1 d1 (aloneK ns k) 2 oo W8 (Hs.out.keep HG8.out) (alone_may ns k) (by have := Hnm.out; omega) Hov.out
          unfold DoneIs at h
          rw [hE, hD] at h
          exact h
        clear hg8 hrow8 hE hD
        go_upto_region 11 with (go_at_call 48; refine HD.out.mono ?_; rintro e w9 ⟨A2, n2, c2, B2, m2, d2, rfl, hs2, hc2, hd2, g9⟩; have Hs2 := Lib.hid hs2; have HG9 := Lib.hid g9; have Hcd2 : Hid (n2 ≤ c2 ∧ m2 ≤ d2) := ⟨hc2, hd2⟩; clear hs2 g9 hc2 hd2)
        clear p0 p1 p2 p3 v0 v1
        obtain ⟨gq, hgq⟩ : ∃ gq, w9.heap.size = gq := ⟨_, rfl⟩
        rw [hgq]
        refine Td.named (fun W' => wr.grownBy W' none ∧ Row W' gq 69 #[.slice A2 n2 c2, .slice B2 m2 d2, .int .i64 E] ∧ SL W' A2 n2 B2 m2 D ∧ Row W' go 66 #[.int .i64 oo.kind, .string oo.key, .string oo.item, .int .i64 oo.v]) ⟨gb_alloc (gb_none HG8.out HG9.out) _, by rw [← hgq]; exact Row.new _ _ _, Hs2.out.keep (gb_alloc (gb_refl _ _) _), ((Hrow8.out.kept HG9.out (by simp)).alloc _)⟩ ?_
        rintro W10 ⟨hg10, hrow10, hs10, hro10⟩
        have HG10 := Lib.hid hg10
        have Hs10 := Lib.hid hs10
        have Hro10 := Lib.hid hro10
        have y0 := hrow10.at_ (i := 0) rfl
        have y1 := hrow10.at_ (i := 1) rfl
        have y2 := hrow10.at_ (i := 2) rfl
        have hst10 := HRow1.out.kept hg10 (by simp)
        have v0 := hst10.at_ (i := 0) rfl
        have v1 := hst10.at_ (i := 1) rfl
        have Hst10 := Lib.hid hst10
        have Hrb10 := Lib.hid (HRb.out.kept hg10 (by simp))
        clear hgq hg10 hrow10 hs10 hro10 hst10 Hs2 HG9 Hrow8 HG8 HD HO HCs
        by_cases h0E : E = 0
        · have f1 : (E != 0) = false := by rw [h0E]; rfl
          have hz : (doS (aloneK ns k) 2 oo).2 = 0 := HE.out.trans h0E
          have hmay := do_may (alone_may ns k) hz
          have halN := al_step Hal0.out (alone_may ns k) hz Hoo.out.2.1 Hoo.out.2.2 Hj5.out.2.1 Hoo.out.1
          have hst : aloneK ns (k + 1) = joinS (aloneK ns k) (doS (aloneK ns k) 2 oo).1 := by rw [Hnext.out]; unfold stepM; rw [if_pos hz]
          rw [← hst] at halN
          rw [HDd.out] at hmay hst
          have HalN := Lib.hid halN
          have HalO := Hal0
          have hlowD : Low D (k + 1) := fun d m hh => by
            have h := alone_low ns (k + 1) d m
            rw [hst] at h
            exact h ((join_seen (alone_may ns k).ss hmay.1.ss d m).2 (.inr hh))
          have hsh := hlowD.short hmay.1
          have hn2 : n2 ≤ 10000 := by have := Hs10.out.1.1; have := Hlt.out; have := HK.out.1; omega
          have hm2 : m2 ≤ 10000 := by have := Hs10.out.2.1; have := Hlt.out; have := HK.out.1; omega
          have HJ : Hid (Calls Try.prog 30 #[.agg #[.slice A1 n1 c1, .slice B1 m1 d1], .agg #[.slice A2 n2 c2, .slice B2 m2 d2]] W10 (States (aloneK ns (k + 1)) W10)) := by
            have h := refJoin_any A1 B1 A2 B2 n1 c1 m1 d1 n2 c2 m2 d2 (aloneK ns k) D W10 (Hs.out.keep HG10.out) Hs10.out (alone_may ns k).ss hmay.1.ss (by have := Hnm.out; omega) (by have := Hnm.out; omega) hn2 hm2
            rw [← hst] at h
            exact h
          clear hz hmay hst hlowD hsh hn2 hm2 h0E halN
          go_upto_region 13 with (go_at_call 30; refine HJ.out.mono ?_; rintro e w3 ⟨A3, n3, c3, B3, m3, d3, rfl, hs3, hc3, hd3, g3⟩; have r0 := Hst10.out.kept g3 (by simp); have s0 := r0.at_ (i := 0) rfl; have s1 := r0.at_ (i := 1) rfl; have z0 := r0.free 0; have z1 := r0.free 1; have Hr0 := Lib.hid r0; have Hs3 := Lib.hid hs3; have Hg3 := Lib.hid g3; have Hcd3 : Hid (n3 ≤ c3 ∧ m3 ≤ d3) := ⟨hc3, hd3⟩; clear r0 hs3 g3 hc3 hd3)
          have k1 := gb_set1 w3 h0 0 (.slice A3 n3 c3)
          have k2 := gb_set1 (w3.setCell ⟨h0, 0, none⟩ (.slice A3 n3 c3)) h0 1 (.slice B3 m3 d3)
          have r1 := Hr0.out.set_ 0 (.slice A3 n3 c3)
          have r2 := r1.set_ 1 (.slice B3 m3 d3)
          have hs4 := sl_beside (sl_beside Hs3.out k1 Hr0.out) k2 r1
          have hb : w.heap.size ≤ h0 := by have := Hh0.out; omega
          have hro := Hro10.out.kept Hg3.out (by simp)
          have hrb := Hrb10.out.kept Hg3.out (by simp)
          have no := row_ne hro Hr0.out (by decide)
          have nb := row_ne hrb Hr0.out (by decide)
          refine Td.named (fun W' => w.grownBy W' none ∧ Row W' h0 26 #[.slice A3 n3 c3, .slice B3 m3 d3] ∧ SL W' A3 n3 B3 m3 (aloneK ns (k + 1)) ∧ Row W' go 66 #[.int .i64 oo.kind, .string oo.key, .string oo.item, .int .i64 oo.v] ∧ Row W' gi 4 (boolsA t.mem)) ⟨gb_new (gb_new (gb_none (gb_none Hg.out HG10.out) Hg3.out) k1 hb) k2 hb, r2, hs4, (hro.kept k1 (fun e => no (Option.some.inj e))).kept k2 (fun e => no (Option.some.inj e)), (hrb.kept k1 (fun e => nb (Option.some.inj e))).kept k2 (fun e => nb (Option.some.inj e))⟩ ?_
          clear k1 k2 r1 r2 hs4 hb hro hrb no nb s0 s1 z0 z1 y0 y1 y2 v0 v1 f1
          rintro W12 ⟨hg12, hr12, hs12, hrow12, hrb12⟩
          have HG12 := Lib.hid hg12
          have HR12 := Lib.hid hr12
          have Hs12 := Lib.hid hs12
          have HRb12 := Lib.hid hrb12
          clear hg12 hr12 hs12 hrb12 Hr0 Hs3 Hg3 HJ Hst10 Hrb10 Hro10 HG10 Hs10 Hs HRow1 HRb Hg HE HDd Hnext
          have k5 : oo.kind = 1 ∨ oo.kind = 2 ∨ oo.kind = 3 ∨ oo.kind = 4 ∨ oo.kind = 5 := by have := Hoo.out.2.2; omega
          rcases k5 with hk | hk | hk | hk | hk
          · have Hal : Hid (AlI (aloneK ns (k + 1)) (nextT t oo jj)) := HalN.out
            rw [hk] at hrow12
            have HRo : Hid (Row W12 go 66 #[.int .i64 1, .string oo.key, .string oo.item, .int .i64 oo.v]) := hrow12
            have p0 := hrow12.at_ (i := 0) rfl
            have p2 := hrow12.at_ (i := 2) rfl
            have p3 := hrow12.at_ (i := 3) rfl
            replace Hal : Hid _ := (next1 (t := t) (j := jj) hk) ▸ Hal.out
            clear hk hrow12
            have t7 := Ht7.out
            go_wp2_with fail
            go_roundw
            case rel => exact ⟨k + 1, q + 2, A3, B3, n3, c3, m3, d3, gi, ⟨oo.item, t.sum, t.mem⟩, by have := Hq.out; omega, by have := Hlt.out; omega, rfl, rfl, rfl, rfl, HR12.out, HRb12.out, Hgi.out, Hs12.out, Hcd3.out.1, Hcd3.out.2, Hal.out, HG12.out⟩
            case measure => simp [intOf]; have := Hq.out; have := Hlt.out; omega
          · have Hal : Hid (AlI (aloneK ns (k + 1)) (nextT t oo jj)) := HalN.out
            rw [hk] at hrow12
            have HRo : Hid (Row W12 go 66 #[.int .i64 2, .string oo.key, .string oo.item, .int .i64 oo.v]) := hrow12
            have p0 := hrow12.at_ (i := 0) rfl
            have p2 := hrow12.at_ (i := 2) rfl
            have p3 := hrow12.at_ (i := 3) rfl
            replace Hal : Hid _ := (next2 (t := t) (j := jj) hk) ▸ Hal.out
            clear hk hrow12
            have t7 := Ht7.out
            go_upto_region 21 with fail
            clear p0 p2 p3
            apply wp_region_told_tail (le := fun a b => a.grownBy b none) 9 _ [isV _, isV _, isV _, isV _, isV _, isV _, isV _, isV _, isV _]
            case hL => rfl
            case hz => rfl
            case hLd => rfl
            case hLg => rfl
            case hLw => kernel_rfl
            case hlen => rfl
            case hn => rfl
            case hm => kernel_rfl
            case hB => kernel_rfl
            case ht => exact fun _ _ _ h k => gb_none h k
            case hw => exact gb_drew (gb_refl _ _)
            -- 0: law.go:62 move
            apply told_is
            · intro W f hW hE h0 K hK
              have e6 := h0 6 (by kernel_rfl)
              conv at e6 => rhs; whnf
              clear hE h0
              refine yes_of (want_free rfl) ?_
              go_simp; exact hK _ _ (gb_refl _ _) rfl
            -- 1: law.go:62 fieldAddr
            apply told_is
            · intro W f hW hE h0 K hK
              have e8 := h0 8 (by kernel_rfl)
              conv at e8 => rhs; whnf
              clear hE h0
              refine yes_of (want_free rfl) ?_
              go_simp; exact hK _ _ (gb_refl _ _) rfl
            -- 2: law.go:62 load
            apply told_is
            · intro W f hW hE h0 K hK
              have e58 : f 58 = _ := hE 0 58 _ rfl (by kernel_rfl)
              clear hE h0
              refine yes_of (want_free rfl) ?_
              have p2 := (HRo.out.kept hW (by simp)).at_ (i := 2) rfl
              go_simp; exact hK _ _ (gb_refl _ _) rfl
            -- 3: law.go:62 index
            apply told_is
            · intro W f hW hE h0 K hK
              have e59 : f 59 = _ := hE 0 59 _ rfl (by kernel_rfl)
              clear hE h0
              refine yes_of (want_free rfl) ?_
              have t1 := Hix.out W
              go_simp; exact hK _ _ (gb_refl _ _) rfl
            -- 4: law.go:62 binOp
            apply told_is
            · intro W f hW hE h0 K hK
              have e60 : f 60 = _ := hE 0 60 _ rfl (by kernel_rfl)
              clear hE h0
              refine yes_of (want_free rfl) ?_
              have t1 := Hsb.out
              go_simp; exact hK _ _ (gb_refl _ _) rfl
            -- 5: law.go:62 fieldAddr
            apply told_is
            · intro W f hW hE h0 K hK
              have e8 := h0 8 (by kernel_rfl)
              conv at e8 => rhs; whnf
              clear hE h0
              refine yes_of (want_free rfl) ?_
              go_simp; exact hK _ _ (gb_refl _ _) rfl
            -- 6: law.go:62 load
            apply told_is
            · intro W f hW hE h0 K hK
              have e62 : f 62 = _ := hE 0 62 _ rfl (by kernel_rfl)
              clear hE h0
              refine yes_of (want_free rfl) ?_
              have p0 := (HRo.out.kept hW (by simp)).at_ (i := 0) rfl
              go_simp; exact hK _ _ (gb_refl _ _) rfl
            -- 7: law.go:62 binOp
            apply told_is
            · intro W f hW hE h0 K hK
              have e63 : f 63 = _ := hE 0 63 _ rfl (by kernel_rfl)
              clear hE h0
              refine yes_of (want_free rfl) ?_
              go_simp; exact hK _ _ (gb_refl _ _) rfl
            -- 8: law.go:62 indexAddr
            apply told_is
            · intro W f hW hE h0 K hK
              have e57 : f 57 = _ := hE 7 57 _ rfl (by kernel_rfl)
              have e61 : f 61 = _ := hE 3 61 _ rfl (by kernel_rfl)
              clear hE h0
              refine yes_of (want_free rfl) ?_
              obtain ⟨b1', b2', b3'⟩ := Hj5.out
              go_simp; exact hK _ _ (gb_refl _ _) rfl
            intro W f hW hA
            simp only [lexIn, Act.put, List.setIfInBounds_toArray, List.set_cons_zero, List.set_cons_succ]
            have e65 : f 65 = _ := hA 0 (some 65) _ rfl
            rw [e65]
            have e64 : f 64 = _ := hA 1 (some 64) _ rfl
            rw [e64]
            clear hA
            have hrb := HRb12.out.kept hW (by simp)
            have q0 := hrb.free jj
            have u0 := hrb.at_ (boolsA_at (m := t.mem) (j := jj) (by rw [HalO.out.len]; exact Hj5.out.2.1))
            have y1 := gb_set1 W gi jj (.bool true)
            have Hrb : Hid (Row (W.setCell ⟨gi, jj, none⟩ (.bool true)) gi 4 (boolsA (t.mem.set jj true))) := by
              have h := hrb.set_ jj (.bool true)
              rw [boolsA_set] at h
              exact h
            have Hr0b : Hid (Row (W.setCell ⟨gi, jj, none⟩ (.bool true)) h0 26 #[.slice A3 n3 c3, .slice B3 m3 d3]) := (HR12.out.kept hW (by simp)).kept y1 (fun e => row_ne HR12.out HRb12.out (by decide) (Option.some.inj e))
            have Hslb : Hid (SL (W.setCell ⟨gi, jj, none⟩ (.bool true)) A3 n3 B3 m3 (aloneK ns (k + 1))) := sl_bool (Hs12.out.keep hW) y1 hrb
            have Hggb : Hid (w.grownBy (W.setCell ⟨gi, jj, none⟩ (.bool true)) none) := gb_new (gb_none HG12.out hW) y1 Hgi.out
            clear hrb y1 hW
            rw [ends_is]
            go_simp
            clear q0 u0
            go_wp2_with fail
            go_roundw
            case rel => exact ⟨k + 1, q + 2, A3, B3, n3, c3, m3, d3, gi, ⟨t.text, t.sum, t.mem.set jj true⟩, by have := Hq.out; omega, by have := Hlt.out; omega, rfl, rfl, rfl, rfl, Hr0b.out, Hrb.out, Hgi.out, Hslb.out, Hcd3.out.1, Hcd3.out.2, Hal.out, Hggb.out⟩
            case measure => simp [intOf]; have := Hq.out; have := Hlt.out; omega
          · have Hal : Hid (AlI (aloneK ns (k + 1)) (nextT t oo jj)) := HalN.out
            rw [hk] at hrow12
            have HRo : Hid (Row W12 go 66 #[.int .i64 3, .string oo.key, .string oo.item, .int .i64 oo.v]) := hrow12
            have p0 := hrow12.at_ (i := 0) rfl
            have p2 := hrow12.at_ (i := 2) rfl
            have p3 := hrow12.at_ (i := 3) rfl
            replace Hal : Hid _ := (next3 (t := t) (j := jj) hk) ▸ Hal.out
            clear hk hrow12
            have t7 := Ht7.out
            go_upto_region 21 with fail
            clear p0 p2 p3
            apply wp_region_told_tail (le := fun a b => a.grownBy b none) 9 _ [isV _, isV _, isV _, isV _, isV _, isV _, isV _, isV _, isV _]
            case hL => rfl
            case hz => rfl
            case hLd => rfl
            case hLg => rfl
            case hLw => kernel_rfl
            case hlen => rfl
            case hn => rfl
            case hm => kernel_rfl
            case hB => kernel_rfl
            case ht => exact fun _ _ _ h k => gb_none h k
            case hw => exact gb_drew (gb_refl _ _)
            -- 0: law.go:62 move
            apply told_is
            · intro W f hW hE h0 K hK
              have e6 := h0 6 (by kernel_rfl)
              conv at e6 => rhs; whnf
              clear hE h0
              refine yes_of (want_free rfl) ?_
              go_simp; exact hK _ _ (gb_refl _ _) rfl
            -- 1: law.go:62 fieldAddr
            apply told_is
            · intro W f hW hE h0 K hK
              have e8 := h0 8 (by kernel_rfl)
              conv at e8 => rhs; whnf
              clear hE h0
              refine yes_of (want_free rfl) ?_
              go_simp; exact hK _ _ (gb_refl _ _) rfl
            -- 2: law.go:62 load
            apply told_is
            · intro W f hW hE h0 K hK
              have e58 : f 58 = _ := hE 0 58 _ rfl (by kernel_rfl)
              clear hE h0
              refine yes_of (want_free rfl) ?_
              have p2 := (HRo.out.kept hW (by simp)).at_ (i := 2) rfl
              go_simp; exact hK _ _ (gb_refl _ _) rfl
            -- 3: law.go:62 index
            apply told_is
            · intro W f hW hE h0 K hK
              have e59 : f 59 = _ := hE 0 59 _ rfl (by kernel_rfl)
              clear hE h0
              refine yes_of (want_free rfl) ?_
              have t1 := Hix.out W
              go_simp; exact hK _ _ (gb_refl _ _) rfl
            -- 4: law.go:62 binOp
            apply told_is
            · intro W f hW hE h0 K hK
              have e60 : f 60 = _ := hE 0 60 _ rfl (by kernel_rfl)
              clear hE h0
              refine yes_of (want_free rfl) ?_
              have t1 := Hsb.out
              go_simp; exact hK _ _ (gb_refl _ _) rfl
            -- 5: law.go:62 fieldAddr
            apply told_is
            · intro W f hW hE h0 K hK
              have e8 := h0 8 (by kernel_rfl)
              conv at e8 => rhs; whnf
              clear hE h0
              refine yes_of (want_free rfl) ?_
              go_simp; exact hK _ _ (gb_refl _ _) rfl
            -- 6: law.go:62 load
            apply told_is
            · intro W f hW hE h0 K hK
              have e62 : f 62 = _ := hE 0 62 _ rfl (by kernel_rfl)
              clear hE h0
              refine yes_of (want_free rfl) ?_
              have p0 := (HRo.out.kept hW (by simp)).at_ (i := 0) rfl
              go_simp; exact hK _ _ (gb_refl _ _) rfl
            -- 7: law.go:62 binOp
            apply told_is
            · intro W f hW hE h0 K hK
              have e63 : f 63 = _ := hE 0 63 _ rfl (by kernel_rfl)
              clear hE h0
              refine yes_of (want_free rfl) ?_
              go_simp; exact hK _ _ (gb_refl _ _) rfl
            -- 8: law.go:62 indexAddr
            apply told_is
            · intro W f hW hE h0 K hK
              have e57 : f 57 = _ := hE 7 57 _ rfl (by kernel_rfl)
              have e61 : f 61 = _ := hE 3 61 _ rfl (by kernel_rfl)
              clear hE h0
              refine yes_of (want_free rfl) ?_
              obtain ⟨b1', b2', b3'⟩ := Hj5.out
              go_simp; exact hK _ _ (gb_refl _ _) rfl
            intro W f hW hA
            simp only [lexIn, Act.put, List.setIfInBounds_toArray, List.set_cons_zero, List.set_cons_succ]
            have e65 : f 65 = _ := hA 0 (some 65) _ rfl
            rw [e65]
            have e64 : f 64 = _ := hA 1 (some 64) _ rfl
            rw [e64]
            clear hA
            have hrb := HRb12.out.kept hW (by simp)
            have q0 := hrb.free jj
            have u0 := hrb.at_ (boolsA_at (m := t.mem) (j := jj) (by rw [HalO.out.len]; exact Hj5.out.2.1))
            have y1 := gb_set1 W gi jj (.bool false)
            have Hrb : Hid (Row (W.setCell ⟨gi, jj, none⟩ (.bool false)) gi 4 (boolsA (t.mem.set jj false))) := by
              have h := hrb.set_ jj (.bool false)
              rw [boolsA_set] at h
              exact h
            have Hr0b : Hid (Row (W.setCell ⟨gi, jj, none⟩ (.bool false)) h0 26 #[.slice A3 n3 c3, .slice B3 m3 d3]) := (HR12.out.kept hW (by simp)).kept y1 (fun e => row_ne HR12.out HRb12.out (by decide) (Option.some.inj e))
            have Hslb : Hid (SL (W.setCell ⟨gi, jj, none⟩ (.bool false)) A3 n3 B3 m3 (aloneK ns (k + 1))) := sl_bool (Hs12.out.keep hW) y1 hrb
            have Hggb : Hid (w.grownBy (W.setCell ⟨gi, jj, none⟩ (.bool false)) none) := gb_new (gb_none HG12.out hW) y1 Hgi.out
            clear hrb y1 hW
            rw [ends_is]
            go_simp
            clear q0 u0
            go_wp2_with fail
            go_roundw
            case rel => exact ⟨k + 1, q + 2, A3, B3, n3, c3, m3, d3, gi, ⟨t.text, t.sum, t.mem.set jj false⟩, by have := Hq.out; omega, by have := Hlt.out; omega, rfl, rfl, rfl, rfl, Hr0b.out, Hrb.out, Hgi.out, Hslb.out, Hcd3.out.1, Hcd3.out.2, Hal.out, Hggb.out⟩
            case measure => simp [intOf]; have := Hq.out; have := Hlt.out; omega
          · have Hal : Hid (AlI (aloneK ns (k + 1)) (nextT t oo jj)) := HalN.out
            rw [hk] at hrow12
            have HRo : Hid (Row W12 go 66 #[.int .i64 4, .string oo.key, .string oo.item, .int .i64 oo.v]) := hrow12
            have p0 := hrow12.at_ (i := 0) rfl
            have p2 := hrow12.at_ (i := 2) rfl
            have p3 := hrow12.at_ (i := 3) rfl
            replace Hal : Hid _ := (next4 (t := t) (j := jj) hk) ▸ Hal.out
            clear hk hrow12
            have t7 := Ht7.out
            obtain ⟨S4, hS⟩ : ∃ S4, IntKind.i64.wrap (t.sum + oo.v) = S4 := ⟨_, rfl⟩
            replace Hal : Hid (AlI (aloneK ns (k + 1)) ⟨t.text, S4, t.mem⟩) := by rw [← hS]; exact Hal.out
            go_wp2_with fail
            go_roundw
            case rel => exact ⟨k + 1, q + 2, A3, B3, n3, c3, m3, d3, gi, ⟨t.text, S4, t.mem⟩, by have := Hq.out; omega, by have := Hlt.out; omega, rfl, rfl, by first | rfl | rw [hS], rfl, HR12.out, HRb12.out, Hgi.out, Hs12.out, Hcd3.out.1, Hcd3.out.2, Hal.out, HG12.out⟩
            case measure => simp [intOf]; have := Hq.out; have := Hlt.out; omega
          · have Hal : Hid (AlI (aloneK ns (k + 1)) (nextT t oo jj)) := HalN.out
            rw [hk] at hrow12
            have HRo : Hid (Row W12 go 66 #[.int .i64 5, .string oo.key, .string oo.item, .int .i64 oo.v]) := hrow12
            have p0 := hrow12.at_ (i := 0) rfl
            have p2 := hrow12.at_ (i := 2) rfl
            have p3 := hrow12.at_ (i := 3) rfl
            replace Hal : Hid _ := (next5 (t := t) (j := jj) hk) ▸ Hal.out
            clear hk hrow12
            have t7 := Ht7.out
            have hmk := mk5 W12
            have Hg5 : Hid (W12.grownBy (W12.alloc (.cells #[.bool false, .bool false, .bool false, .bool false, .bool false] 4)) none) := gb_alloc (gb_refl _ _) _
            have Hgi5 : Hid (w.heap.size ≤ W12.heap.size) := HG12.out.size
            have Hrb5 : Hid (Row (W12.alloc (.cells #[.bool false, .bool false, .bool false, .bool false, .bool false] 4)) W12.heap.size 4 (boolsA (List.replicate 5 false))) := Row.new _ _ _
            go_wp2_with fail
            go_roundw
            case rel => exact ⟨k + 1, q + 2, A3, B3, n3, c3, m3, d3, W12.heap.size, th0, by have := Hq.out; omega, by have := Hlt.out; omega, rfl, rfl, rfl, rfl, HR12.out.kept Hg5.out (by simp), Hrb5.out, Hgi5.out, Hs12.out.keep Hg5.out, Hcd3.out.1, Hcd3.out.2, Hal.out, gb_none HG12.out Hg5.out⟩
            case measure => simp [intOf]; have := Hq.out; have := Hlt.out; omega
        · have f1 : (E != 0) = true := by rw [bne_iff_ne]; exact h0E
          have hst : aloneK ns (k + 1) = aloneK ns k := by rw [Hnext.out]; unfold stepM; rw [if_neg (by rw [HE.out]; exact h0E)]
          have Hst := Lib.hid hst
          have t7 := Ht7.out
          clear h0E hst
          go_wp2_with fail
          go_roundw
          case rel => exact ⟨k + 1, q + 2, A1, B1, n1, c1, m1, d1, gi, t, by have := Hq.out; omega, by have := Hlt.out; omega, rfl, rfl, rfl, rfl, Hst10.out, Hrb10.out, Hgi.out, by rw [Hst.out]; exact Hs.out.keep HG10.out, Hcd.out.1, Hcd.out.2, by rw [Hst.out]; exact Hal0.out, gb_none Hg.out HG10.out⟩
          case measure => simp [intOf]; have := Hq.out; have := Hlt.out; omega
      · have hkK : k = K := by omega
        subst hkK
        have Hnm9 : Hid (m1 ≤ 100000) := by
          show _ ≤ _
          have h1 := (alone_low ns k).short (alone_may ns k)
          have h2 := hs.2.1
          have := HK.out.1
          omega
        have HSs : Hid (∀ W, wr.grownBy W none → W.cell? ⟨h0, 0, none⟩ = some (.slice A1 n1 c1) ∧ W.cell? ⟨h0, 1, none⟩ = some (.slice B1 m1 d1) ∧ SL W A1 n1 B1 m1 (aloneK ns k)) := fun W hW => ⟨(hr1.kept hW (by simp)).at_ (i := 0) rfl, (hr1.kept hW (by simp)).at_ (i := 1) rfl, hs.keep hW⟩
        have HBs : Hid (∀ W, wr.grownBy W none → ∀ j, j < 5 → W.cell? ⟨gi, j, none⟩ = some (.bool (t.mem.getD j false))) := fun W hW j hj => (hrb.kept hW (by simp)).at_ (boolsA_at (by rw [Hal0.out.len]; exact hj))
        have HGw := Lib.hid hg
        have Hal := Hal0
        have t6 : IntKind.i64.wrap ((q : Int) + 1) = ((q + 1 : Nat) : Int) := by rw [IntKind.wrap_i64]; have := HK.out.1; omega
        have d1' : decide (q + 1 < len0) = false := decide_eq_false (fun h => by have := (HK.out.2.2 k).2 (by omega); omega)
        have d2' : decide (((q + 1 : Nat) : Int) < (len0 : Int)) = false := decide_eq_false (fun h => by have := (HK.out.2.2 k).2 (by omega); omega)
        have d5' : decide ((q : Int) + 1 < (len0 : Int)) = false := decide_eq_false (fun h => by have := (HK.out.2.2 k).2 (by omega); omega)
        obtain ⟨i0, hi0, hz0, hz1, hz2⟩ := info_parts6 str_inf
        have Hi0 := Lib.hid hi0
        have Hz0 := Lib.hid hz0
        have Hz1 := Lib.hid hz1
        have Hz2 := Lib.hid hz2
        obtain ⟨B0, hB0⟩ : ∃ B0, wr.heap.size = B0 := ⟨_, rfl⟩
        have HB0 := Lib.hid hB0
        have Hnil : Hid (wr.ownsRow B0 9 1 (.slice none 0 0) 0 (sv [])) := World.ownsRow_nil _ _ _ _
        clear hr1 hrb hs hg hgi hc1' hd1 hlt hq hk hi0 hz0 hz1 hz2 hB0
        go_wp2_with fail
        clear t6 d1' d2' d5'
        go_loopw [11, 10] (fun i v wq => ∃ j : Nat, j ≤ 5 ∧ i = .int .i64 j ∧ wq.ownsRow B0 9 1 v (wantT t.mem j).length (sv (wantT t.mem j)) ∧ wr.grownBy wq none) (fun i _ _ => 5 - (intOf i).toNat)
        case atStart => exact ⟨0, Nat.zero_le _, rfl, Hnil.out, gb_refl _ _⟩
        case round =>
          obtain ⟨j, hj5, rfl, hown, hgq⟩ := hrel
          obtain ⟨N, hN⟩ : ∃ N, (wantT t.mem j).length = N := ⟨_, rfl⟩
          have HN5 : Hid (N ≤ 5) := by show _ ≤ _; rw [← hN]; exact Nat.le_trans (want_len _ _) hj5
          obtain ⟨A6, c6, hv, htW, hle6, hn6⟩ := own_tl hown rfl
          subst hv
          rw [hN] at hown htW hle6 ⊢
          have HN := Lib.hid hN
          have HB0q : Hid (B0 ≤ wr.heap.size) := by show _ ≤ _; have := hgq.size; have := HB0.out; omega
          by_cases hj : j < 5
          · have x1' : decide (j < 5) = true := decide_eq_true hj
            have x2' : decide ((j : Int) < 5) = true := decide_eq_true (by omega)
            have b5 : (j : Int) < 5 := by omega
            have hcell := HBs.out wr hgq j hj
            have Hj := Lib.hid hj
            have tj : IntKind.i64.wrap ((j : Int) + 1) = ((j + 1 : Nat) : Int) := by rw [IntKind.wrap_i64]; omega
            cases hmj : t.mem.getD j false with
            | true =>
              rw [hmj] at hcell
              obtain ⟨yv, hyv⟩ : ∃ yv, 97 + (j : Int) = yv := ⟨_, rfl⟩
              have a1 : IntKind.i64.wrap (97 + (j : Int)) = yv := by rw [IntKind.wrap_i64]; omega
              have a2 : IntKind.u8.wrap yv = yv := by rw [IntKind.wrap_u8']; omega
              have hc1 := text_b1 (x := yv) (by omega) (by omega) (Row.new wr 5 #[.int .u8 yv])
              have Htx : Hid (b1 (97 + (j : Int)) = b1 yv) := by show _ = _; rw [hyv]
              obtain ⟨ly, hly⟩ : ∃ ly, b1 yv = ly := ⟨_, rfl⟩
              rw [hly] at hc1
              have Hly := Lib.hid hly
              have HL : Hid (wantT t.mem (j + 1) = wantT t.mem j ++ [tx ly]) := by show _ = _; rw [want_more, if_pos hmj, Htx.out, Hly.out]
              have Hga := Lib.hid (gb_alloc (gb_alloc hgq (.cells #[.int .u8 yv] 5)) (.cells #[.string ly] 9))
              have Hown2 : Hid (((wr.alloc (.cells #[.int .u8 yv] 5)).alloc (.cells #[.string ly] 9)).ownsRow B0 9 1 (.slice A6 N c6) N (sv (wantT t.mem j))) := (hown.alloc _).alloc _
              have Hb3 : Hid (B0 ≤ ((wr.alloc (.cells #[.int .u8 yv] 5)).alloc (.cells #[.string ly] 9)).heap.size) := by show _ ≤ _; have h1 := Hga.out.size; have := HB0.out; omega
              clear hN htW hle6 hn6 hj hj5 hyv hly hown hgq hmj
              go_wp2_with (at_builtin; go_must (refine wpList_append_own _ rfl (.tmp 80) (.tmp 86) 58 rfl B0 9 i0 (.string ⟨#[]⟩) 1 16 Try.underlying58 Hi0.out Hz0.out Hz1.out Hz2.out rfl (by decide) _ N _ rfl Hown2.out ⟨wr.heap.size + 1, 0, none⟩ 1 1 (sv [tx ly]) rfl rfl (by have h := World.news_of_block (cs := #[.string ly]) (t := 9) (fr := (0, 0)) (heap_alloc_new (wr.alloc (.cells #[.int .u8 yv] 5)) (.cells #[.string ly] 9)); rwa [World.size_alloc] at h) (sv_one _) (by have := HN5.out; simp only [maxLen]; omega) (by have := HN5.out; omega) Hb3.out ?_); intro v1 w1 own1 grow1 _; have Own1 := Lib.hid own1; have Grow1 := Lib.hid grow1; clear own1 grow1; obtain ⟨A1', c1', hv1⟩ := ot_slice Own1.out; subst hv1)
              go_roundw
              case rel =>
                refine ⟨j + 1, by have := Hj.out; omega, by go_num, ?_, ?_⟩
                · rw [HL.out, sv_append, List.length_append, HN.out]
                  exact Own1.out
                · exact gb_step Hga.out Grow1.out (fun i e => .inr (by rw [HB0.out]; exact ot_far Hown2.out i e))
              case measure => simp [intOf]; have := Hj.out; omega
            | false =>
              rw [hmj] at hcell
              have HL : Hid (wantT t.mem (j + 1) = wantT t.mem j) := by show _ = _; rw [want_more, if_neg (by rw [hmj]; decide)]
              have Hown := Lib.hid hown
              have Hgq := Lib.hid hgq
              clear hN htW hle6 hn6 hj hj5 hmj hown hgq
              go_wp2_with fail
              go_roundw
              case rel => exact ⟨j + 1, by have := Hj.out; omega, by go_num, by rw [HL.out, HN.out]; exact Hown.out, Hgq.out⟩
              case measure => simp [intOf]; have := Hj.out; omega
          · obtain rfl : j = 5 := by omega
            have x1' : decide ((5 : Nat) < 5) = false := by decide
            have x2' : decide (((5 : Nat) : Int) < 5) = false := by decide
            obtain ⟨LT, hLT⟩ : ∃ LT, itemsT (aloneK ns k).facts kK 1 = LT := ⟨_, rfl⟩
            obtain ⟨nT, hnT⟩ : ∃ n, LT.length = n := ⟨_, rfl⟩
            obtain ⟨LM, hLM⟩ : ∃ LM, wantT t.mem 5 = LM := ⟨_, rfl⟩
            rw [hLM] at htW hN
            have HLM : Hid (itemsT (aloneK ns k).facts kK 2 = LM) := by show _ = _; rw [← hLM]; exact al_members Hal.out
            have HCt : Hid (countT (aloneK ns k).facts kK = t.sum) := al_count Hal.out (alone_may ns k)
            have HLT := Lib.hid hLT
            have HnT := Lib.hid hnT
            obtain ⟨nM, hnM⟩ : ∃ n, N = n := ⟨_, rfl⟩
            subst hnM
            have HnM : Hid (LM.length = N) := hN
            have HnM5 := HN5
            have HtW := Lib.hid htW
            have Hgq := Lib.hid hgq
            obtain ⟨v0, v1, _⟩ := HSs.out wr hgq
            clear hN htW hle6 hn6 hj hj5 hown hgq hLT hnT hLM
            go_upto_region 31 with (go_at_call 42; refine (pTexts_any A1 B1 n1 c1 m1 d1 (aloneK ns k) kK wr (HSs.out wr Hgq.out).2.2 Hnm9.out).mono ?_; rw [HLT.out]; intro e wt hh; obtain ⟨AT, cT, rfl, hT1, hT2, gT⟩ := texts_of hh HnT.out; have HtT := Lib.hid hT1; have HGt := Lib.hid (gb_none Hgq.out gT); have Hkt := Lib.hid gT; clear hh hT1 hT2 gT)
            clear x1' x2' v0 v1
            by_cases hsz : t.text.size = 0
            · have t1 := str_none hsz
              have hl : LT = [] := by
                rw [← HLT.out, al_text Hal.out, if_pos hsz]
              have hn0 : nT = 0 := by rw [← HnT.out, hl]; rfl
              subst hn0
              clear hl hsz
              go_upto_region 32 with fail
              clear t1
              obtain ⟨v4, v5, _⟩ := HSs.out wt HGt.out
              go_wp2_with (go_at_call 44; refine (pMembers_any A1 B1 n1 c1 m1 d1 (aloneK ns k) kK wt (HSs.out wt HGt.out).2.2 Hnm9.out).mono ?_; rw [HLM.out]; intro e w13 hh; obtain ⟨A13, c13, rfl, h131, h132, g13⟩ := texts_of hh HnM.out; have Ht13 := Lib.hid h131; have HG13 := Lib.hid (gb_none HGt.out g13); have Hk13 := Lib.hid (gb_none Hkt.out g13); clear hh h131 g13)
              go_wp2_with (go_at_call 39; refine (sameTexts_any A13 A6 N c13 N c6 LM LM w13 Ht13.out (HtW.out.keep Hk13.out) (by have := HnM5.out; omega) (by have := HnM5.out; omega)).mono ?_; intro e w14 hh; obtain ⟨he, g14⟩ := hh.yes rfl; subst he; have HG14 := Lib.hid (gb_none HG13.out g14); clear hh g14; obtain ⟨v6, v7, _⟩ := HSs.out w14 HG14.out)
              go_wp2_with (go_at_call 45; refine (pCount_any A1 B1 n1 c1 m1 d1 (aloneK ns k) kK w14 (HSs.out w14 HG14.out).2.2 Hnm9.out).mono ?_; rw [HCt.out]; rintro e w15 ⟨rfl, g15⟩; have HG15 := Lib.hid (gb_none HG14.out g15); clear g15)
              go_wp2_with (go_at_call 38; refine (awake10_any _).mono ?_; rintro e w16 ⟨rfl, g16⟩)
              go_ret
              exact ⟨rfl, gb_below (gb_none HGw.out (gb_none HG15.out g16)) (Nat.le_refl _)⟩
            · have t1 := str_some hsz
              have hl : LT = [tx t.text] := by
                rw [← HLT.out, al_text Hal.out, if_neg hsz]
              have hn1 : nT = 1 := by rw [← HnT.out, hl]; rfl
              subst hn1
              have ht1 := HtT.out
              rw [hl] at ht1
              obtain ⟨gt, ot, rfl, hgt, hct⟩ := ht1.2 (by omega)
              have x0 : wt.cell? ⟨gt, ot, none⟩ = some (.string t.text) := hct 0 (tx t.text) rfl
              clear hl hsz ht1 hgt hct
              go_upto_region 32 with fail
              clear t1 x0
              obtain ⟨v4, v5, _⟩ := HSs.out wt HGt.out
              go_wp2_with (go_at_call 44; refine (pMembers_any A1 B1 n1 c1 m1 d1 (aloneK ns k) kK wt (HSs.out wt HGt.out).2.2 Hnm9.out).mono ?_; rw [HLM.out]; intro e w13 hh; obtain ⟨A13, c13, rfl, h131, h132, g13⟩ := texts_of hh HnM.out; have Ht13 := Lib.hid h131; have HG13 := Lib.hid (gb_none HGt.out g13); have Hk13 := Lib.hid (gb_none Hkt.out g13); clear hh h131 g13)
              go_wp2_with (go_at_call 39; refine (sameTexts_any A13 A6 N c13 N c6 LM LM w13 Ht13.out (HtW.out.keep Hk13.out) (by have := HnM5.out; omega) (by have := HnM5.out; omega)).mono ?_; intro e w14 hh; obtain ⟨he, g14⟩ := hh.yes rfl; subst he; have HG14 := Lib.hid (gb_none HG13.out g14); clear hh g14; obtain ⟨v6, v7, _⟩ := HSs.out w14 HG14.out)
              go_wp2_with (go_at_call 45; refine (pCount_any A1 B1 n1 c1 m1 d1 (aloneK ns k) kK w14 (HSs.out w14 HG14.out).2.2 Hnm9.out).mono ?_; rw [HCt.out]; rintro e w15 ⟨rfl, g15⟩; have HG15 := Lib.hid (gb_none HG14.out g15); clear g15)
              go_wp2_with (go_at_call 38; refine (awake10_any _).mono ?_; rintro e w16 ⟨rfl, g16⟩)
              go_ret
              exact ⟨rfl, gb_below (gb_none HGw.out (gb_none HG15.out g16)) (Nat.le_refl _)⟩

set_option maxRecDepth 100000 in
theorem lifted (os : Os) (started : os.Started) (H : Type) (enc : TypeId × Value → H) :
    ReturnsInHanded {} Try.checked os 13 .any (Rows.readAloneSpec.pre6 enc Try.prog Try.f13 Rows.readAloneRow.domain false) (Rows.readAloneSpec.post enc Try.prog Try.f13 false true false false) := by
  refine returnsInHanded_of_change (C := Try.checked) own started (by kernel_rfl) Try.func13
    (ChangeSpec.witness6 (enc := enc) (C := Try.checked) false ⟨#[], #[.slice none 0 0], []⟩ 8 (by kernel_rfl) (by kernel_rfl) (by kernel_rfl) (by kernel_rfl)) ?_
  intro W base args ds gs before hval0 hW hcnd _
  have hval : ∀ (j : Nat) t v, Try.f13.params[j]? = some t → args[j]? = some v → Value.okWide Try.prog W .any base t v := hval0
  have hW' := hW
  obtain ⟨p, q, hA0, hV, rfl, hfz, hnd⟩ := hW
  have hA : DataW.TrodAll enc Try.prog W 0 (fun _ => true) true Try.f13.params.toList args.toList ds p := hA0
  rw [Try.params13] at hA hval
  obtain ⟨v0, vs0, d0, ds0, p0, q0, hargs, rfl, rfl, h0, r0⟩ := trodAll_cons hA
  obtain ⟨rfl, rfl, rfl⟩ := trodAll_nil r0
  obtain rfl : args = #[v0] := by cases args; simp_all
  obtain ⟨rfl, rfl⟩ := trodVars_none hV
  have k0 := h0
  have lt0 : ∀ x ∈ p0, x.block < W.heap.size := by obtain ⟨m, hm⟩ := k0; exact DataW.trod_lt m _ _ _ hm
  obtain ⟨a0, len0, cap0, rfl⟩ := okWide_slice Try.underlying22 (hval 0 22 v0 rfl rfl)
  obtain ⟨z0, w0⟩ : ∃ zs, IsRow .u8 W a0 len0 cap0 zs := by
    obtain ⟨fuel, hf⟩ := h0
    rcases open_ints Try.underlying22 Try.underlying5 (by kernel_rfl) hf with ⟨hcs, _⟩ | ⟨x, l, c, zs, hcs, _, hl, hm, hz, _, hcell, hwz⟩
    · simp [Value.cells] at hcs
      obtain ⟨rfl, rfl, rfl⟩ := hcs
      exact ⟨[], .inl ⟨rfl, rfl, rfl, rfl⟩⟩
    · simp [Value.cells] at hcs
      obtain ⟨rfl, rfl, rfl⟩ := hcs
      exact ⟨zs, .inr ⟨_, rfl, hl, hm, by simpa using hz, hcell, hwz⟩⟩
  clear hA0 hval0
  refine (walk a0 len0 cap0 z0 W w0).mono fun e W' ⟨he, bel⟩ => ?_
  subst he
  exact ⟨_, rfl, _, _, _, [], _, [], hW', trodAll_mk1 (shut_bool Try.underlying4 _), (trodAll_cons_mk (Below.trod laidOut (by kernel_rfl) (of_decide_eq_true (by kernel_rfl)) k0 bel lt0) trodAll_mk0), rfl, bel.frame _, fun h => by cases h⟩

theorem over : Rows.readAloneRow.holds Try.pinned (OpenSpec.ofChange Rows.readAloneSpec) :=
  OpenClaim.holds_of_wide 13 Try.f13 rfl rfl rfl rfl rfl rfl rfl ⟨rfl, rfl, rfl, rfl, rfl⟩ rfl rfl rfl rfl rfl (by kernel_rfl) Try.func13 (by kernel_rfl)
    (of_decide_eq_true (by kernel_rfl)) (by unfold Func.isWrapper; first | (rw [if_pos (by decide +kernel)]; kernel_rfl) | (rw [if_neg (by decide +kernel)]; exact ⟨rfl, rfl⟩))
    (fun os started H enc _ => lifted os started H enc)

theorem proved : Rows.ReadAloneSaid := over
#print axioms proved
end Go.Proofs.Ytblndpfgfakdeaa.readAlone
