/- Records told by bytes, as the program reads them. Written by gen_mbget.py. -/
import Derived.Test.YtdlafgkiddhejaaGreatDoorMbMay
import Derived.Test.YtdlafgkiddhejaaGreatDoorVD
import Derived.Test.YtdlafgkiddhejaaGreatDoorToldM
import Derived.Deep.DeepCutAuto
import Derived.Deep.AppendLies
import Derived.Maps.AppendAt
set_option linter.unusedVariables false
namespace Go.Proofs.YtdlafgkiddhejaaGreatDoor.Mb
open Go Go.RowKit Go.Proofs.YtdlafgkiddhejaaGreatDoor.Mm Go.Proofs.YtdlafgkiddhejaaGreatDoor.Td Go.Proofs.YtdlafgkiddhejaaGreatDoor.Vw Go.Proofs.YtdlafgkiddhejaaGreatDoor.Dt

attribute [local go_sem] Td.upon_value Td.upon_skip Td.upon_enter Td.upon_row Td.look_tmp Td.look_const Td.look_func Td.look_global
theorem ints_row {W : World} {g : Nat} {T : TypeId} (ks : List Int) (hr : Row W g T (ks.map (fun k => Value.int .i64 k)).toArray) : ∀ i k, ks[i]? = some k → W.cell? ⟨g, i, none⟩ = some (.int .i64 k) := fun i k hi => hr.at_ (by rw [List.getElem?_toArray, List.getElem?_map, hi]; rfl)
theorem own_keep {w w' : World} {B : Nat} {e : TypeId} {s : Nat} {v : Value} {n : Nat} {xs : List Value} (h : w.ownsRow B e s v n xs) (g : w.grownBy w' none) : w'.ownsRow B e s v n xs := World.ownsRow.kept h g (by cases hv : Value.ownBlock _ with | none => exact .inl rfl | some q => exact .inr (by simp))
theorem wrap_inf : (Tryz.prog.info? 37).map (fun i => (i.zero, i.size, i.bytes)) = some (some (.agg #[.int .i64 0, .string ⟨#[]⟩]), 2, 24) := by kernel_rfl
theorem wrap_parts : ∃ i, Tryz.prog.info? 37 = some i ∧ i.zero = some (.agg #[.int .i64 0, .string ⟨#[]⟩]) ∧ i.size = 2 ∧ i.bytes = 24 := by
  obtain ⟨i, hi, h⟩ := Option.map_eq_some_iff.1 wrap_inf
  simp only [Prod.mk.injEq] at h
  exact ⟨i, hi, h.1, h.2.1, h.2.2⟩
/-- A list of just these kinds. -/
def ItemsOk (x : Wr) (ks : List Int) : Prop := x.k = 3 ∧ x.l.map Wr.k = ks
/-- .. its block from B on. -/
def WLb (w : World) (B : Nat) (A : Option Addr) (n : Nat) (l : List Wp) : Prop := l.length = n ∧ (0 < n → ∃ g o, A = some ⟨g, o, none⟩ ∧ B ≤ g ∧ g < w.heap.size ∧ ∀ i x, l[i]? = some x → WAt w g (o + i * 2) x)
theorem WLb.wl {w : World} {B : Nat} {A : Option Addr} {n : Nat} {l : List Wp} (h : WLb w B A n l) : WL w A n l := ⟨h.1, fun hn => by
  obtain ⟨g, o, e, _, hg, hc⟩ := h.2 hn
  exact ⟨g, o, e, hg, hc⟩⟩
theorem WLb.low {w : World} {B B' : Nat} {A : Option Addr} {n : Nat} {l : List Wp} (h : WLb w B A n l) (hB : B' ≤ B) : WLb w B' A n l := ⟨h.1, fun hn => by
  obtain ⟨g, o, e, hb, hg, hc⟩ := h.2 hn
  exact ⟨g, o, e, Nat.le_trans hB hb, hg, hc⟩⟩
theorem WLb.past {w w' : World} {B : Nat} {A : Option Addr} {n : Nat} {l : List Wp} {r : Option Nat} (h : WLb w B A n l) (k : w.grownBy w' r) (hr : ∀ i, r = some i → i < B) : WLb w' B A n l := ⟨h.1, fun hn => by
  obtain ⟨g, o, e, hb, hg, hc⟩ := h.2 hn
  exact ⟨g, o, e, hb, Nat.lt_of_lt_of_le hg k.size, fun i x hx => (hc i x hx).kept hg k (fun e => by have := hr g e.symm; omega)⟩⟩
theorem WLb.keep {w w' : World} {B : Nat} {A : Option Addr} {n : Nat} {l : List Wp} (h : WLb w B A n l) (k : w.grownBy w' none) : WLb w' B A n l := h.past k (fun i e => by cases e)
theorem own_wlb {w : World} {B n : Nat} {t : TypeId} {v : Value} {l : List Wp} (h : w.ownsRow B t 2 v n (wv l)) (hn : l.length = n) : ∃ A c, v = .slice A n c ∧ WLb w B A n l ∧ n ≤ c := by
  obtain ⟨A, c, e, h1, h2⟩ := own_wl h hn
  refine ⟨A, c, e, ⟨h1.1, fun h0 => ?_⟩, h2⟩
  obtain ⟨g, o, eA, hg, hc⟩ := h1.2 h0
  exact ⟨g, o, eA, (h.lt g (by rw [e, eA]; rfl)).1, hg, hc⟩
/-- One wrap in a row, told. -/
def wrapV (x : Wp) : Td.Spec := fun W v => ∃ g, v = .slice (some ⟨g, 0, none⟩) 1 1 ∧ Row W g 37 #[.int .i64 x.d, .string x.box]
theorem wrapV_stays {x : Wp} : Stays (fun a b => a.grownBy b none) (wrapV x) := fun _ _ _ h ⟨g, e, hr⟩ => ⟨g, e, hr.kept h (by simp)⟩
set_option maxHeartbeats 8000000 in
set_option maxRecDepth 100000 in
theorem isList_any (x : Wr) (A : Option Addr) (c g m : Nat) (ks : List Int) (w : World) (h : HL w 0 (.slice A x.l.length c) x.l) (hk : ∀ i k, ks[i]? = some k → w.cell? ⟨g, i, none⟩ = some (.int .i64 k)) (hg : g < w.heap.size) (hm : ks.length = m) (h6 : m ≤ 6) :
    Calls Tryz.prog 44 #[.agg #[.int .i64 x.k, .int .i64 x.n, .string x.s, .slice A x.l.length c], .slice (some ⟨g, 0, none⟩) m m] w (BoolIs (ItemsOk x ks) w) := by
  obtain ⟨k, n, s, l⟩ := x
  simp only [Wr.k_mk, Wr.n_mk, Wr.s_mk, Wr.l_mk] at h ⊢
  obtain ⟨b0, hb0⟩ : ∃ b0, w.heap.size = b0 := ⟨_, rfl⟩
  obtain ⟨W0, hW0⟩ : ∃ W0, w.alloc (.cells #[.int .i64 k, .int .i64 n, .string s, .slice A l.length c] 51) = W0 := ⟨_, rfl⟩
  have G0 : w.grownBy W0 none := by rw [← hW0]; exact gb_alloc (gb_refl _ _) _
  have HR0 : Hid (Row W0 b0 51 #[.int .i64 k, .int .i64 n, .string s, .slice A l.length c]) := by rw [← hW0, ← hb0]; exact Row.new _ _ _
  have y0 : W0.cell? ⟨b0, 0, none⟩ = some (.int .i64 k) := HR0.out.at_ (i := 0) rfl
  have y3 : W0.cell? ⟨b0, 3, none⟩ = some (.slice A l.length c) := HR0.out.at_ (i := 3) rfl
  have HG := Lib.hid G0
  have HH := Lib.hid (h.kept G0)
  have HK : Hid (∀ W, W0.grownBy W none → ∀ i k, ks[i]? = some k → W.cell? ⟨g, i, none⟩ = some (.int .i64 k)) := fun W hW i k hi => (World.cell?_of_block (a := ⟨g, i, none⟩) ((gb_none G0 hW).block g hg (by simp))).trans (hk i k hi)
  clear G0 h hk hg
  by_cases h3 : k = 3
  · subst h3
    by_cases hl : l.length = m
    · have Hl := Lib.hid hl
      rw [hl] at HH y3 hW0 HR0 ⊢
      have e1 : ((m : Int) == (m : Int)) = true := by simp
      have e2 : ((m : Int) != (m : Int)) = false := by simp
      clear hl
      go_enter Tryz.func44, Tryz.ntmps44
      go_upto_region 1 with fail
      clear hW0 hb0
      go_wp2_with fail
      clear e1 e2
      go_loopw [20] (fun iv wr => ∃ j : Nat, j ≤ m ∧ iv = .int .i64 j ∧ Hid (∀ q, q < j → (l[q]?).map Wr.k = ks[q]?) ∧ W0.grownBy wr none) (fun iv _ => m - (intOf iv).toNat)
      case atStart => exact ⟨0, Nat.zero_le _, rfl, fun q hq => absurd hq (Nat.not_lt_zero _), gb_refl _ _⟩
      case round =>
        obtain ⟨j, hj, rfl, HJ, hg⟩ := hrel
        have z3 : wr.cell? ⟨b0, 3, none⟩ = some (.slice A m c) := (HR0.out.kept hg (by simp)).at_ (i := 3) rfl
        clear y0 y3
        by_cases hlt : j < m
        · have d1 : decide (j < m) = true := decide_eq_true hlt
          have d2 : decide ((j : Int) < (m : Int)) = true := decide_eq_true (by omega)
          obtain ⟨z, hz⟩ : ∃ z, l[j]? = some z := ⟨_, List.getElem?_eq_getElem (by rw [Hl.out]; exact hlt)⟩
          obtain ⟨kk, hkk⟩ : ∃ kk, ks[j]? = some kk := ⟨_, List.getElem?_eq_getElem (by rw [hm]; exact hlt)⟩
          have c9 := HK.out wr hg j kk hkk
          obtain ⟨g2, o, A2, c2, rfl, _, hgs, c0, _, _, _, _⟩ := (HH.out.kept hg).item hz
          have Hz := Lib.hid hz
          have Hkk := Lib.hid hkk
          have Hg := Lib.hid hg
          have Hlt := Lib.hid hlt
          have t1 : IntKind.i64.wrap ((j : Int) + 1) = ((j + 1 : Nat) : Int) := by rw [IntKind.wrap_i64]; omega
          clear hz hkk hg hlt hj hgs
          by_cases he : z.k = kk
          · have e1 : (z.k == kk) = true := by simp [he]
            have e2 : (z.k != kk) = false := by simp [he]
            have HN : Hid (∀ q, q < j + 1 → (l[q]?).map Wr.k = ks[q]?) := fun q hq => by
              rcases Nat.lt_succ_iff_lt_or_eq.1 hq with hq | rfl
              · exact HJ.out q hq
              · rw [Hz.out, Hkk.out]; show some z.k = some kk; rw [he]
            clear he
            generalize z.k = zk at *
            go_wp2_with fail
            go_roundw
            case rel => exact ⟨j + 1, by have := Hlt.out; omega, rfl, HN, Hg.out⟩
            case measure => simp [intOf]; have := Hlt.out; omega
          · have e1 : (z.k == kk) = false := by simpa using he
            have e2 : (z.k != kk) = true := by simpa using he
            have HN : Hid (¬ ItemsOk (.mk 3 n s l) ks) := fun hh => he (by
              have h9 : (l.map Wr.k)[j]? = some z.k := by rw [List.getElem?_map, Hz.out]; rfl
              rw [show l.map Wr.k = ks from hh.2, Hkk.out] at h9
              exact (Option.some.inj h9).symm)
            clear he
            generalize z.k = zk at *
            go_wp2_with fail
            go_ret
            exact .of_no HN.out (gb_none HG.out Hg.out)
        · have hjm : j = m := by omega
          subst hjm
          have d1 : decide (j < j) = false := by simp
          have d2 : decide ((j : Int) < (j : Int)) = false := by simp
          have HN : Hid (ItemsOk (.mk 3 n s l) ks) := ⟨rfl, by
            show l.map Wr.k = ks
            refine List.ext_getElem? fun q => ?_
            by_cases hq : q < j
            · rw [List.getElem?_map]; exact HJ.out q hq
            · rw [List.getElem?_eq_none (by rw [List.length_map, Hl.out]; omega), List.getElem?_eq_none (by omega)]⟩
          have Hg := Lib.hid hg
          clear hg hlt hj
          go_wp2_with fail
          go_ret
          exact .of_yes HN.out (gb_none HG.out Hg.out)
    · have e1 : ((l.length : Int) == (m : Int)) = false := by simp only [beq_eq_false_iff_ne, ne_eq]; omega
      have e2 : ((l.length : Int) != (m : Int)) = true := by simp only [bne, e1]; rfl
      have HN : Hid (¬ ItemsOk (.mk 3 n s l) ks) := fun hh => hl (by rw [← hm, ← show l.map Wr.k = ks from hh.2, List.length_map])
      clear hl hm HH HK
      generalize l.length = ln at *
      go_enter Tryz.func44, Tryz.ntmps44
      go_upto_region 1 with fail
      clear hW0 hb0
      go_wp2_with fail
      go_ret
      exact .of_no HN.out HG.out
  · have e1 : (k == 3) = false := by simpa using h3
    have e2 : (k != 3) = true := by simpa using h3
    have HN : Hid (¬ ItemsOk (.mk k n s l) ks) := fun hh => h3 hh.1
    clear h3 hm HH HK
    generalize l.length = ln at *
    go_enter Tryz.func44, Tryz.ntmps44
    go_upto_region 1 with fail
    clear hW0 hb0
    go_wp2_with fail
    go_ret
    exact .of_no HN.out HG.out
/-- What wrapsOf says of a wire. -/
def WrapsIs (x : Wr) (w : World) (e : Ending) (w' : World) : Prop := ((∃ l A2 c2, allOf wrapOfW x.l = some l ∧ e = .returned (.tuple #[.slice A2 l.length c2, .bool true]) ∧ WLb w' w.heap.size A2 l.length l ∧ l.length ≤ c2) ∨ (allOf wrapOfW x.l = none ∧ e = .returned (.tuple #[.slice none 0 0, .bool false]))) ∧ w.grownBy w' none
set_option maxHeartbeats 16000000 in
set_option maxRecDepth 100000 in
theorem wrapsOf_any (x : Wr) (A : Option Addr) (c : Nat) (w : World) (h : HL w 0 (.slice A x.l.length c) x.l) : Calls Tryz.prog 45 #[.agg #[.int .i64 x.k, .int .i64 x.n, .string x.s, .slice A x.l.length c]] w (WrapsIs x w) := by
  obtain ⟨xk, xn, xs, l⟩ := x
  have hn := h.len
  simp only [Wr.k_mk, Wr.n_mk, Wr.s_mk, Wr.l_mk] at h hn ⊢
  obtain ⟨n, hl⟩ : ∃ n, l.length = n := ⟨_, rfl⟩
  rw [hl] at h hn ⊢
  obtain ⟨i0, hi0, hz0, hz1, hz2⟩ := wrap_parts
  have Hi0 := Lib.hid hi0
  have Hz0 := Lib.hid hz0
  have Hz1 := Lib.hid hz1
  have Hz2 := Lib.hid hz2
  obtain ⟨b0, hb0⟩ : ∃ b0, w.heap.size = b0 := ⟨_, rfl⟩
  obtain ⟨W0, hW0⟩ : ∃ W0, w.alloc (.cells #[.int .i64 xk, .int .i64 xn, .string xs, .slice A n c] 51) = W0 := ⟨_, rfl⟩
  have G0 : w.grownBy W0 none := by rw [← hW0]; exact gb_alloc (gb_refl _ _) _
  have hR0 : Row W0 b0 51 #[.int .i64 xk, .int .i64 xn, .string xs, .slice A n c] := by rw [← hW0, ← hb0]; exact Row.new _ _ _
  have y3 : W0.cell? ⟨b0, 3, none⟩ = some (.slice A n c) := hR0.at_ (i := 3) rfl
  have HG := Lib.hid G0
  have HH := Lib.hid (h.kept G0)
  have Hl := Lib.hid hl
  have Hn := Lib.hid hn
  clear G0 hR0 h hl hn hi0 hz0 hz1 hz2
  go_enter Tryz.func45, Tryz.ntmps45
  go_upto_region 1 with fail
  clear hW0 hb0
  go_wp2_with fail
  clear y3
  go_loopw [4, 10] (fun ov iv wr => ∃ (k : Nat) (rs : List Wp) (u : Value), u = ov ∧ k ≤ n ∧ iv = .int .i64 k ∧ Hid (allOf wrapOfW (l.take k) = some rs) ∧ Hid (wr.ownsRow W0.heap.size 37 2 ov k (wv rs)) ∧ W0.grownBy wr none) (fun _ iv _ => n - (intOf iv).toNat)
  case atStart => exact ⟨0, [], _, rfl, Nat.zero_le _, rfl, rfl, World.ownsRow_nil _ _ _ _, gb_refl _ _⟩
  case round =>
    obtain ⟨k, rs, u, rfl, hk, rfl, Hr, Ho, hg⟩ := hrel
    by_cases hlt : k < n
    · have d1 : decide (k < n) = true := decide_eq_true hlt
      have d2 : decide ((k : Int) < (n : Int)) = true := decide_eq_true (by omega)
      have bk : (k : Int) < (n : Int) := by omega
      obtain ⟨y, hy⟩ : ∃ y, l[k]? = some y := ⟨_, List.getElem?_eq_getElem (by rw [Hl.out]; exact hlt)⟩
      obtain ⟨g1, o1, A2, c2, rfl, _, hgs, y0, y1, y2, y3, hyl⟩ := (HH.out.kept hg).item hy
      have Hy := Lib.hid hy
      have Hg := Lib.hid hg
      have Hlt := Lib.hid hlt
      have Ht1 : Hid (IntKind.i64.wrap ((k : Int) + 1) = ((k + 1 : Nat) : Int)) := by show _ = _; rw [IntKind.wrap_i64]; have := Hn.out; omega
      obtain ⟨yk, yn, ys, yl⟩ := y
      simp only [Wr.k_mk, Wr.n_mk, Wr.s_mk, Wr.l_mk] at y0 y1 y2 y3 hyl
      have HI : Hid (∀ W, wr.grownBy W none → ∀ g, Row W g 3 #[.int .i64 1, .int .i64 2] → Calls Tryz.prog 44 #[.agg #[.int .i64 yk, .int .i64 yn, .string ys, .slice A2 yl.length c2], .slice (some ⟨g, 0, none⟩) 2 2] W (BoolIs (yk = 3 ∧ yl.map Wr.k = [1, 2]) W)) := fun W hW g hr =>
        isList_any (.mk yk yn ys yl) A2 c2 g 2 [1, 2] W (hyl.kept hW) (ints_row [1, 2] hr) hr.lt rfl (by decide)
      clear hy hg hlt hk hgs
      by_cases hc : yk = 3 ∧ yl.map Wr.k = [1, 2]
      · obtain ⟨rfl, hc2⟩ := hc
        obtain ⟨a, b, el, he⟩ := wrapOfW_of (x := .mk 3 yn ys yl) ⟨rfl, hc2⟩
        obtain rfl : yl = [a, b] := el
        have Hnx : Hid (allOf wrapOfW (l.take (k + 1)) = some (rs ++ [⟨a.n, b.s⟩])) := by
          show _ = _
          rw [List.take_add_one, Hy.out]
          exact allOf_snoc Hr.out he
        have y3' : wr.cell? ⟨g1, o1 + k * 4 + 3, none⟩ = some (.slice A2 2 c2) := y3
        clear y3
        have y3 := y3'
        clear y3'
        have hyl' : HL wr 0 (.slice A2 2 c2) [a, b] := hyl
        obtain ⟨g2, o2, _, _, eA, _, hg2, _, n0, _, _, _⟩ := hyl'.item (i := 0) (x := a) rfl
        subst eA
        obtain ⟨g3, o3, _, _, eA, _, _, _, _, n1, _, _⟩ := hyl'.item (i := 1) (x := b) rfl
        cases eA
        have HX0 : Hid (∀ W, wr.grownBy W none → W.cell? ⟨g2, o2 + 1, none⟩ = some (.int .i64 a.n) ∧ W.cell? ⟨g2, o2 + 4 + 2, none⟩ = some (.string b.s)) := fun W hW => ⟨(World.cell?_of_block (a := ⟨g2, o2 + 1, none⟩) (hW.block g2 hg2 (by simp))).trans (by simpa using n0), (World.cell?_of_block (a := ⟨g2, o2 + 4 + 2, none⟩) (hW.block g2 hg2 (by simp))).trans (by simpa using n1)⟩
        have HI2 : Hid (∀ W, wr.grownBy W none → ∀ g, Row W g 3 #[.int .i64 1, .int .i64 2] → Calls Tryz.prog 44 #[.agg #[.int .i64 3, .int .i64 yn, .string ys, .slice (some ⟨g2, o2, none⟩) 2 c2], .slice (some ⟨g, 0, none⟩) 2 2] W fun e w' => e = .returned (.bool true) ∧ W.grownBy w' none) := fun W hW g hr => (HI.out W hW g hr).mono fun _ _ h => h.yes ⟨rfl, hc2⟩
        clear hyl hyl' n0 n1 hc2 HI he hg2
        go_upto_region 5 with fail
        obtain ⟨W4, hW4⟩ : ∃ W4, wr.alloc (.cells #[.int .i64 3, .int .i64 yn, .string ys, .slice (some ⟨g2, o2, none⟩) 2 c2] 51) = W4 := ⟨_, rfl⟩
        have g4 : wr.grownBy W4 none := by rw [← hW4]; exact gb_alloc (gb_refl _ _) _
        have hr4 : Row W4 wr.heap.size 51 #[.int .i64 3, .int .i64 yn, .string ys, .slice (some ⟨g2, o2, none⟩) 2 c2] := by rw [← hW4]; exact Row.new _ _ _
        have Hg4 : Hid (W0.grownBy W4 none) := gb_none Hg.out g4
        have Ho4 : Hid (W4.ownsRow W0.heap.size 37 2 u k (wv rs)) := own_keep Ho.out g4
        rw [hW4]
        have HB : Hid (∀ W, W4.grownBy W none → W.cell? ⟨wr.heap.size, 0, none⟩ = some (.int .i64 3) ∧ W.cell? ⟨wr.heap.size, 1, none⟩ = some (.int .i64 yn) ∧ W.cell? ⟨wr.heap.size, 2, none⟩ = some (.string ys) ∧ W.cell? ⟨wr.heap.size, 3, none⟩ = some (.slice (some ⟨g2, o2, none⟩) 2 c2)) := fun W hW => by
          have k := hr4.kept hW (by simp)
          exact ⟨k.at_ (i := 0) rfl, k.at_ (i := 1) rfl, k.at_ (i := 2) rfl, k.at_ (i := 3) rfl⟩
        have HX : Hid (∀ W, W4.grownBy W none → W.cell? ⟨g2, o2 + 1, none⟩ = some (.int .i64 a.n) ∧ W.cell? ⟨g2, o2 + 4 + 2, none⟩ = some (.string b.s)) := fun W hW => HX0.out W (gb_none g4 hW)
        have HI4 : Hid (∀ W, W4.grownBy W none → ∀ g, Row W g 3 #[.int .i64 1, .int .i64 2] → Calls Tryz.prog 44 #[.agg #[.int .i64 3, .int .i64 yn, .string ys, .slice (some ⟨g2, o2, none⟩) 2 c2], .slice (some ⟨g, 0, none⟩) 2 2] W fun e w' => e = .returned (.bool true) ∧ W.grownBy w' none) := fun W hW => HI2.out W (gb_none g4 hW)
        clear hW4 hr4 g4 y0 y1 y2 y3 HX0 HI2 Ho
        generalize wr.heap.size = D4 at *
        obtain ⟨z0, z1, z2, z3⟩ := HB.out W4 (gb_refl _ _)
        go_wp2_with fail
        refine (HI4.out _ (gb_alloc (gb_refl _ _) _) _ (Row.new _ _ _)).mono ?_
        rintro e w5 ⟨rfl, g5⟩
        have Hg5 := Lib.hid (gb_none (gb_alloc (gb_refl W4 none) _) g5)
        clear g5 z0 z1 z2 z3
        go_upto_region 7 with fail
        clear d1 d2 bk
        apply Tm.wp_region_told_list (le := fun a b => a.grownBy b none) 13 [isV _, isV _, isV _, isV _, isV _, isV _, isV _, isV _, isV _, isV _, isV _, isV _, wrapV ⟨a.n, b.s⟩]
        case hC => kernel_rfl
        case hlen => rfl
        case hn => rfl
        case hm => kernel_rfl
        case hB => kernel_rfl
        case ht => exact fun _ _ _ h k => gb_none h k
        case hw => exact gb_drew (gb_refl _ _)
        -- 0: parts.go:42 move
        apply Tm.head_is
        · intro W f hW hE h0 K hK
          have e4 := h0 4 (by kernel_rfl)
          conv at e4 => rhs; whnf
          clear hE h0
          refine yes_of (want_free rfl) ?_
          go_simp; exact hK _ _ (gb_refl _ _) rfl
        -- 1: parts.go:42 fieldAddr
        apply Tm.head_is
        · intro W f hW hE h0 K hK
          have e6 := h0 6 (by kernel_rfl)
          conv at e6 => rhs; whnf
          clear hE h0
          refine yes_of (want_free rfl) ?_
          go_simp; exact hK _ _ (gb_refl _ _) rfl
        -- 2: parts.go:42 load
        apply Tm.head_is
        · intro W f hW hE h0 K hK
          have e19 : f 19 = _ := hE 0 19 _ rfl (by kernel_rfl)
          clear hE h0
          refine yes_of (want_free rfl) ?_
          have c3 := (HB.out W (gb_none Hg5.out hW)).2.2.2
          go_simp; exact hK _ _ (gb_refl _ _) rfl
        -- 3: parts.go:42 indexAddr
        apply Tm.head_is
        · intro W f hW hE h0 K hK
          have e20 : f 20 = _ := hE 0 20 _ rfl (by kernel_rfl)
          clear hE h0
          refine yes_of (want_free rfl) ?_
          go_simp; exact hK _ _ (gb_refl _ _) rfl
        -- 4: parts.go:42 fieldAddr
        apply Tm.head_is
        · intro W f hW hE h0 K hK
          have e21 : f 21 = _ := hE 0 21 _ rfl (by kernel_rfl)
          clear hE h0
          refine yes_of (want_free rfl) ?_
          go_simp; exact hK _ _ (gb_refl _ _) rfl
        -- 5: parts.go:42 load
        apply Tm.head_is
        · intro W f hW hE h0 K hK
          have e22 : f 22 = _ := hE 0 22 _ rfl (by kernel_rfl)
          clear hE h0
          refine yes_of (want_free rfl) ?_
          obtain ⟨x0, x1⟩ := HX.out W (gb_none Hg5.out hW)
          go_simp; exact hK _ _ (gb_refl _ _) rfl
        -- 6: parts.go:42 fieldAddr
        apply Tm.head_is
        · intro W f hW hE h0 K hK
          have e6 := h0 6 (by kernel_rfl)
          conv at e6 => rhs; whnf
          clear hE h0
          refine yes_of (want_free rfl) ?_
          go_simp; exact hK _ _ (gb_refl _ _) rfl
        -- 7: parts.go:42 load
        apply Tm.head_is
        · intro W f hW hE h0 K hK
          have e24 : f 24 = _ := hE 0 24 _ rfl (by kernel_rfl)
          clear hE h0
          refine yes_of (want_free rfl) ?_
          have c3 := (HB.out W (gb_none Hg5.out hW)).2.2.2
          go_simp; exact hK _ _ (gb_refl _ _) rfl
        -- 8: parts.go:42 indexAddr
        apply Tm.head_is
        · intro W f hW hE h0 K hK
          have e25 : f 25 = _ := hE 0 25 _ rfl (by kernel_rfl)
          clear hE h0
          refine yes_of (want_free rfl) ?_
          go_simp; exact hK _ _ (gb_refl _ _) rfl
        -- 9: parts.go:42 fieldAddr
        apply Tm.head_is
        · intro W f hW hE h0 K hK
          have e26 : f 26 = _ := hE 0 26 _ rfl (by kernel_rfl)
          clear hE h0
          refine yes_of (want_free rfl) ?_
          go_simp; exact hK _ _ (gb_refl _ _) rfl
        -- 10: parts.go:42 load
        apply Tm.head_is
        · intro W f hW hE h0 K hK
          have e27 : f 27 = _ := hE 0 27 _ rfl (by kernel_rfl)
          clear hE h0
          refine yes_of (want_free rfl) ?_
          obtain ⟨x0, x1⟩ := HX.out W (gb_none Hg5.out hW)
          go_simp; exact hK _ _ (gb_refl _ _) rfl
        -- 11: parts.go:42 build
        apply Tm.head_is
        · intro W f hW hE h0 K hK
          have e23 : f 23 = _ := hE 5 23 _ rfl (by kernel_rfl)
          have e28 : f 28 = _ := hE 0 28 _ rfl (by kernel_rfl)
          clear hE h0
          refine yes_of (want_free rfl) ?_
          go_simp; exact hK _ _ (gb_refl _ _) rfl
        -- 12: parts.go:42 buildSlice
        apply Tm.head_at wrapV_stays
        · intro W f hW hE h0 K hK
          have e29 : f 29 = _ := hE 0 29 _ rfl (by kernel_rfl)
          clear hE h0
          refine yes_of (want_free rfl) ?_
          go_simp
          exact hK _ _ (gb_alloc (gb_refl _ _) _) ⟨_, rfl, Row.new _ _ _⟩
        intro W f hW hA
        simp only [List.take_succ_cons, List.take_zero, List.drop_succ_cons, List.drop_zero, lexIn, Act.put, List.setIfInBounds_toArray, List.set_cons_zero, List.set_cons_succ]
        have e18 : f 18 = _ := hA 12 (some 18) _ rfl
        rw [e18]
        have e30 := hA 0 (some 30) _ rfl
        clear hA
        obtain ⟨gn, e30, hrn⟩ := e30
        rw [e30]
        have Hgw : Hid (W0.grownBy W none) := gb_none Hg4.out (gb_none Hg5.out hW)
        have Ho2 : Hid (W.ownsRow W0.heap.size 37 2 u k (wv rs)) := own_keep Ho4.out (gb_none Hg5.out hW)
        have Hrn := Lib.hid hrn
        have hgs : W0.heap.size ≤ W.heap.size := Hgw.out.size
        clear hW hrn
        have t1 := Ht1.out
        refine wpList_append_own_at _ rfl (.tmp 18) (.tmp 30) 24 rfl W0.heap.size 37 i0 (.agg #[.int .i64 0, .string ⟨#[]⟩]) 2 24 Tryz.underlying24 Hi0.out Hz0.out Hz1.out Hz2.out rfl (by decide) _ k _ rfl Ho2.out ⟨gn, 0, none⟩ 1 1 [.int .i64 a.n, .string b.s] rfl rfl (World.news_of_block (cs := #[.int .i64 a.n, .string b.s]) (t := 37) (fr := (0, 0)) Hrn.out) (wv1_one ⟨a.n, b.s⟩) (by have := Hlt.out; have := Hn.out; simp only [maxLen]; omega) (by have := Hlt.out; have := Hn.out; omega) hgs ?_
        intro v8 w8 own8 hgrow _ _
        have Hown8 := Lib.hid own8
        have Hg8 := Lib.hid (gb_step Hgw.out hgrow (fun i e => .inr (Ho2.out.lt i e).1))
        clear own8 hgrow
        go_wp2_with fail
        go_roundw
        case rel =>
          have hwv : wv [(⟨a.n, b.s⟩ : Wp)] = [.int .i64 a.n, .string b.s] := rfl
          refine ⟨k + 1, rs ++ [⟨a.n, b.s⟩], _, rfl, by have := Hlt.out; omega, rfl, Hnx, ?_, Hg8.out⟩
          rw [wv_append, hwv]
          exact Hown8.out
        case measure => simp [intOf]; have := Hlt.out; omega
      · have HN : Hid (allOf wrapOfW l = none) := allOf_bad (List.mem_of_getElem? Hy.out) (wrapOfW_no hc)
        have HI2 : Hid (∀ W, wr.grownBy W none → ∀ g, Row W g 3 #[.int .i64 1, .int .i64 2] → Calls Tryz.prog 44 #[.agg #[.int .i64 yk, .int .i64 yn, .string ys, .slice A2 yl.length c2], .slice (some ⟨g, 0, none⟩) 2 2] W fun e w' => e = .returned (.bool false) ∧ W.grownBy w' none) := fun W hW g hr => (HI.out W hW g hr).mono fun _ _ h => h.no hc
        clear HI hc hyl
        generalize yl.length = ln at *
        go_upto_region 5 with fail
        obtain ⟨W4, hW4⟩ : ∃ W4, wr.alloc (.cells #[.int .i64 yk, .int .i64 yn, .string ys, .slice A2 ln c2] 51) = W4 := ⟨_, rfl⟩
        have g4 : wr.grownBy W4 none := by rw [← hW4]; exact gb_alloc (gb_refl _ _) _
        have hr4 : Row W4 wr.heap.size 51 #[.int .i64 yk, .int .i64 yn, .string ys, .slice A2 ln c2] := by rw [← hW4]; exact Row.new _ _ _
        have Hg4 : Hid (W0.grownBy W4 none) := gb_none Hg.out g4
        have Ho4 : Hid (W4.ownsRow W0.heap.size 37 2 u k (wv rs)) := own_keep Ho.out g4
        rw [hW4]
        have HB : Hid (∀ W, W4.grownBy W none → W.cell? ⟨wr.heap.size, 0, none⟩ = some (.int .i64 yk) ∧ W.cell? ⟨wr.heap.size, 1, none⟩ = some (.int .i64 yn) ∧ W.cell? ⟨wr.heap.size, 2, none⟩ = some (.string ys) ∧ W.cell? ⟨wr.heap.size, 3, none⟩ = some (.slice A2 ln c2)) := fun W hW => by
          have k := hr4.kept hW (by simp)
          exact ⟨k.at_ (i := 0) rfl, k.at_ (i := 1) rfl, k.at_ (i := 2) rfl, k.at_ (i := 3) rfl⟩
        have HI4 : Hid (∀ W, W4.grownBy W none → ∀ g, Row W g 3 #[.int .i64 1, .int .i64 2] → Calls Tryz.prog 44 #[.agg #[.int .i64 yk, .int .i64 yn, .string ys, .slice A2 ln c2], .slice (some ⟨g, 0, none⟩) 2 2] W fun e w' => e = .returned (.bool false) ∧ W.grownBy w' none) := fun W hW => HI2.out W (gb_none g4 hW)
        clear hW4 hr4 g4 y0 y1 y2 y3 HI2 Ho
        generalize wr.heap.size = D4 at *
        obtain ⟨z0, z1, z2, z3⟩ := HB.out W4 (gb_refl _ _)
        go_wp2_with fail
        refine (HI4.out _ (gb_alloc (gb_refl _ _) _) _ (Row.new _ _ _)).mono ?_
        rintro e w5 ⟨rfl, g5⟩
        have Hg5 := Lib.hid (gb_none HG.out (gb_none (gb_alloc Hg4.out _) g5))
        clear g5 z0 z1 z2 z3
        go_wp2_with fail
        refine bodyPost_ret (results_tmp2 rfl _ _ _) rfl ?_
        exact ⟨.inr ⟨HN.out, rfl⟩, Hg5.out⟩
    · have hkn : k = n := by omega
      subst hkn
      have d1 : decide (k < k) = false := by simp
      have d2 : decide ((k : Int) < (k : Int)) = false := by simp
      have Hr2 : Hid (allOf wrapOfW l = some rs) := by
        have h := Hr.out
        rwa [List.take_of_length_le (by rw [Hl.out]; exact Nat.le_refl _)] at h
      have hrl : rs.length = k := by rw [allOf_len Hr2.out, Hl.out]
      obtain ⟨A5, c5, rfl, hR, hc5⟩ := own_wlb Ho.out hrl
      have HR := Lib.hid hR
      have Hc5 := Lib.hid hc5
      have Hrl := Lib.hid hrl
      have Hg := Lib.hid hg
      clear hlt hk hR hrl hg Hr hc5
      go_wp2_with fail
      refine bodyPost_ret (results_tmp2 rfl _ _ _) rfl ?_
      refine ⟨.inl ⟨rs, A5, c5, Hr2.out, ?_, ?_, ?_⟩, gb_none HG.out Hg.out⟩
      · show Ending.returned (.tuple #[.slice A5 k c5, .bool true]) = _
        rw [Hrl.out]
      · rw [Hrl.out]; exact HR.out.low HG.out.size
      · rw [Hrl.out]; exact Hc5.out
/-- What recordOf says of a wire. -/
def RecOfIs (x : Wr) (w : World) (e : Ending) (w' : World) : Prop := ((∃ r A c, recOfW x = some r ∧ e = .returned (.tuple #[.agg (recCs r A c), .bool true]) ∧ WLb w' w.heap.size A r.wraps.length r.wraps ∧ r.wraps.length ≤ c ∧ r.wraps.length ≤ 1099511627776) ∨ (recOfW x = none ∧ e = .returned (.tuple #[.agg #[.int .i64 0, .string ⟨#[]⟩, .int .i64 0, .int .i64 0, .slice none 0 0, .string ⟨#[]⟩], .bool false]))) ∧ w.grownBy w' none
set_option maxHeartbeats 16000000 in
set_option maxRecDepth 100000 in
theorem recordOf_no (x : Wr) (A : Option Addr) (c : Nat) (w : World) (h : HL w 0 (.slice A x.l.length c) x.l) (hc : ¬ (x.k = 3 ∧ x.l.map Wr.k = [1, 2, 1, 1, 3, 2])) : Calls Tryz.prog 26 #[.agg #[.int .i64 x.k, .int .i64 x.n, .string x.s, .slice A x.l.length c]] w fun e w' => e = .returned (.tuple #[.agg #[.int .i64 0, .string ⟨#[]⟩, .int .i64 0, .int .i64 0, .slice none 0 0, .string ⟨#[]⟩], .bool false]) ∧ w.grownBy w' none := by
  obtain ⟨xk, xn, xs, l⟩ := x
  simp only [Wr.k_mk, Wr.n_mk, Wr.s_mk, Wr.l_mk] at h hc ⊢
  obtain ⟨b0, hb0⟩ : ∃ b0, w.heap.size = b0 := ⟨_, rfl⟩
  obtain ⟨h0, hh0⟩ : ∃ h0, b0 + 1 = h0 := ⟨_, rfl⟩
  obtain ⟨W0, hW0⟩ : ∃ W0, (w.alloc (.cells #[.int .i64 xk, .int .i64 xn, .string xs, .slice A l.length c] 51)).alloc (.cells #[.int .i64 0, .string ⟨#[]⟩, .int .i64 0, .int .i64 0, .slice none 0 0, .string ⟨#[]⟩] 26) = W0 := ⟨_, rfl⟩
  have G0 : w.grownBy W0 none := by rw [← hW0]; exact gb_alloc (gb_alloc (gb_refl _ _) _) _
  have HR0 : Hid (Row W0 h0 26 #[.int .i64 0, .string ⟨#[]⟩, .int .i64 0, .int .i64 0, .slice none 0 0, .string ⟨#[]⟩]) := by
    rw [← hW0, ← hh0, ← hb0]
    have h := Row.new (w.alloc (.cells #[.int .i64 xk, .int .i64 xn, .string xs, .slice A l.length c] 51)) 26 #[.int .i64 0, .string ⟨#[]⟩, .int .i64 0, .int .i64 0, .slice none 0 0, .string ⟨#[]⟩]
    rw [World.size_alloc] at h
    exact h
  have hRb : Row W0 b0 51 #[.int .i64 xk, .int .i64 xn, .string xs, .slice A l.length c] := by rw [← hW0, ← hb0]; exact (Row.new _ _ _).alloc _
  have HB : Hid (∀ W, W0.grownBy W none → W.cell? ⟨b0, 3, none⟩ = some (.slice A l.length c)) := fun W hW => (hRb.kept hW (by simp)).at_ (i := 3) rfl
  have y0 : W0.cell? ⟨b0, 0, none⟩ = some (.int .i64 xk) := hRb.at_ (i := 0) rfl
  have y1 : W0.cell? ⟨b0, 1, none⟩ = some (.int .i64 xn) := hRb.at_ (i := 1) rfl
  have y2 : W0.cell? ⟨b0, 2, none⟩ = some (.string xs) := hRb.at_ (i := 2) rfl
  have y3 : W0.cell? ⟨b0, 3, none⟩ = some (.slice A l.length c) := hRb.at_ (i := 3) rfl
  have Hh0 : Hid (w.heap.size ≤ h0) := by show _ ≤ _; omega
  have HG := Lib.hid G0
  have HI : Hid (∀ W, W0.grownBy W none → ∀ g, Row W g 3 #[.int .i64 1, .int .i64 2, .int .i64 1, .int .i64 1, .int .i64 3, .int .i64 2] → Calls Tryz.prog 44 #[.agg #[.int .i64 xk, .int .i64 xn, .string xs, .slice A l.length c], .slice (some ⟨g, 0, none⟩) 6 6] W fun e w' => e = .returned (.bool false) ∧ W.grownBy w' none) := fun W hW g hr =>
    (isList_any (.mk xk xn xs l) A c g 6 [1, 2, 1, 1, 3, 2] W (h.kept (gb_none G0 hW)) (ints_row [1, 2, 1, 1, 3, 2] hr) hr.lt rfl (by decide)).mono fun _ _ hh => hh.no hc
  clear hRb h G0 hc
  generalize l.length = ln at *
  go_enter Tryz.func26, Tryz.ntmps26
  go_upto_region 1 with fail
  clear hW0 hh0 hb0
  go_wp2_with fail
  refine (HI.out _ (gb_alloc (gb_refl _ _) _) _ (Row.new _ _ _)).mono ?_
  rintro e w1 ⟨rfl, g1⟩
  have Hg1 := Lib.hid (gb_none (gb_alloc (gb_refl W0 none) _) g1)
  clear g1 y0 y1 y2 y3
  have hr := HR0.out.kept (Hg1.out) (by simp)
  have f0 := hr.free 0
  have f1 := hr.free 1
  have f2 := hr.free 2
  have f3 := hr.free 3
  have f4 := hr.free 4
  have f5 := hr.free 5
  have u0 : (w1).cell? ⟨h0, 0, none⟩ = some (.int .i64 0) := hr.at_ (i := 0) rfl
  have u1 : (w1).cell? ⟨h0, 1, none⟩ = some (.string ⟨#[]⟩) := hr.at_ (i := 1) rfl
  have u2 : (w1).cell? ⟨h0, 2, none⟩ = some (.int .i64 0) := hr.at_ (i := 2) rfl
  have u3 : (w1).cell? ⟨h0, 3, none⟩ = some (.int .i64 0) := hr.at_ (i := 3) rfl
  have u4 : (w1).cell? ⟨h0, 4, none⟩ = some (.slice none 0 0) := hr.at_ (i := 4) rfl
  have u5 : (w1).cell? ⟨h0, 5, none⟩ = some (.string ⟨#[]⟩) := hr.at_ (i := 5) rfl
  have Hr := Lib.hid hr
  clear hr
  go_wp2_with fail
  have Hx := Lib.hid ((((((Hr.out.set_ 0 (.int .i64 0)).set_ 1 (.string ⟨#[]⟩)).set_ 2 (.int .i64 0)).set_ 3 (.int .i64 0)).set_ 4 (.slice none 0 0)).set_ 5 (.string ⟨#[]⟩))
  have kk : (w1).grownBy (((((((w1).setCell ⟨h0, 0, none⟩ (.int .i64 0)).setCell ⟨h0, 1, none⟩ (.string ⟨#[]⟩)).setCell ⟨h0, 2, none⟩ (.int .i64 0)).setCell ⟨h0, 3, none⟩ (.int .i64 0)).setCell ⟨h0, 4, none⟩ (.slice none 0 0)).setCell ⟨h0, 5, none⟩ (.string ⟨#[]⟩)) (some h0) := gb_then (gb_then (gb_then (gb_then (gb_then (gb_set1 _ _ _ _) (gb_set1 _ _ _ _)) (gb_set1 _ _ _ _)) (gb_set1 _ _ _ _)) (gb_set1 _ _ _ _)) (gb_set1 _ _ _ _)
  have q0 : (((((((w1).setCell ⟨h0, 0, none⟩ (.int .i64 0)).setCell ⟨h0, 1, none⟩ (.string ⟨#[]⟩)).setCell ⟨h0, 2, none⟩ (.int .i64 0)).setCell ⟨h0, 3, none⟩ (.int .i64 0)).setCell ⟨h0, 4, none⟩ (.slice none 0 0)).setCell ⟨h0, 5, none⟩ (.string ⟨#[]⟩)).cell? ⟨h0, 0, none⟩ = some (.int .i64 0) := Hx.out.at_ (i := 0) rfl
  have q1 : (((((((w1).setCell ⟨h0, 0, none⟩ (.int .i64 0)).setCell ⟨h0, 1, none⟩ (.string ⟨#[]⟩)).setCell ⟨h0, 2, none⟩ (.int .i64 0)).setCell ⟨h0, 3, none⟩ (.int .i64 0)).setCell ⟨h0, 4, none⟩ (.slice none 0 0)).setCell ⟨h0, 5, none⟩ (.string ⟨#[]⟩)).cell? ⟨h0, 1, none⟩ = some (.string ⟨#[]⟩) := Hx.out.at_ (i := 1) rfl
  have q2 : (((((((w1).setCell ⟨h0, 0, none⟩ (.int .i64 0)).setCell ⟨h0, 1, none⟩ (.string ⟨#[]⟩)).setCell ⟨h0, 2, none⟩ (.int .i64 0)).setCell ⟨h0, 3, none⟩ (.int .i64 0)).setCell ⟨h0, 4, none⟩ (.slice none 0 0)).setCell ⟨h0, 5, none⟩ (.string ⟨#[]⟩)).cell? ⟨h0, 2, none⟩ = some (.int .i64 0) := Hx.out.at_ (i := 2) rfl
  have q3 : (((((((w1).setCell ⟨h0, 0, none⟩ (.int .i64 0)).setCell ⟨h0, 1, none⟩ (.string ⟨#[]⟩)).setCell ⟨h0, 2, none⟩ (.int .i64 0)).setCell ⟨h0, 3, none⟩ (.int .i64 0)).setCell ⟨h0, 4, none⟩ (.slice none 0 0)).setCell ⟨h0, 5, none⟩ (.string ⟨#[]⟩)).cell? ⟨h0, 3, none⟩ = some (.int .i64 0) := Hx.out.at_ (i := 3) rfl
  have q4 : (((((((w1).setCell ⟨h0, 0, none⟩ (.int .i64 0)).setCell ⟨h0, 1, none⟩ (.string ⟨#[]⟩)).setCell ⟨h0, 2, none⟩ (.int .i64 0)).setCell ⟨h0, 3, none⟩ (.int .i64 0)).setCell ⟨h0, 4, none⟩ (.slice none 0 0)).setCell ⟨h0, 5, none⟩ (.string ⟨#[]⟩)).cell? ⟨h0, 4, none⟩ = some (.slice none 0 0) := Hx.out.at_ (i := 4) rfl
  have q5 : (((((((w1).setCell ⟨h0, 0, none⟩ (.int .i64 0)).setCell ⟨h0, 1, none⟩ (.string ⟨#[]⟩)).setCell ⟨h0, 2, none⟩ (.int .i64 0)).setCell ⟨h0, 3, none⟩ (.int .i64 0)).setCell ⟨h0, 4, none⟩ (.slice none 0 0)).setCell ⟨h0, 5, none⟩ (.string ⟨#[]⟩)).cell? ⟨h0, 5, none⟩ = some (.string ⟨#[]⟩) := Hx.out.at_ (i := 5) rfl
  refine bodyPost_ret (v := .tuple #[.agg #[.int .i64 0, .string ⟨#[]⟩, .int .i64 0, .int .i64 0, .slice none 0 0, .string ⟨#[]⟩], .bool false]) (by simp [results, Tryz.results26, go_sem, q0, q1, q2, q3, q4, q5]) rfl ?_
  have HGG := Lib.hid (gb_new (gb_none HG.out Hg1.out) kk Hh0.out)
  exact ⟨rfl, HGG.out⟩
set_option maxHeartbeats 16000000 in
set_option maxRecDepth 100000 in
theorem recordOf_yes (a1 a2 a3 a4 a5 a6 : Wr) (xn : Int) (xs : ByteArray) (A : Option Addr) (c : Nat) (w : World) (h : HL w 0 (.slice A 6 c) [a1, a2, a3, a4, a5, a6]) (hk : [a1, a2, a3, a4, a5, a6].map Wr.k = [1, 2, 1, 1, 3, 2]) : Calls Tryz.prog 26 #[.agg #[.int .i64 3, .int .i64 xn, .string xs, .slice A 6 c]] w fun e w' => ((∃ l Aw cw, allOf wrapOfW a5.l = some l ∧ e = .returned (.tuple #[.agg #[.int .i64 a1.n, .string a2.s, .int .i64 a3.n, .int .i64 a4.n, .slice Aw l.length cw, .string a6.s], .bool true]) ∧ WLb w' w.heap.size Aw l.length l ∧ l.length ≤ cw ∧ l.length ≤ 1099511627776) ∨ (allOf wrapOfW a5.l = none ∧ e = .returned (.tuple #[.agg #[.int .i64 0, .string ⟨#[]⟩, .int .i64 0, .int .i64 0, .slice none 0 0, .string ⟨#[]⟩], .bool false]))) ∧ w.grownBy w' none := by
  obtain ⟨b0, hb0⟩ : ∃ b0, w.heap.size = b0 := ⟨_, rfl⟩
  obtain ⟨h0, hh0⟩ : ∃ h0, b0 + 1 = h0 := ⟨_, rfl⟩
  obtain ⟨W0, hW0⟩ : ∃ W0, (w.alloc (.cells #[.int .i64 3, .int .i64 xn, .string xs, .slice A 6 c] 51)).alloc (.cells #[.int .i64 0, .string ⟨#[]⟩, .int .i64 0, .int .i64 0, .slice none 0 0, .string ⟨#[]⟩] 26) = W0 := ⟨_, rfl⟩
  have G0 : w.grownBy W0 none := by rw [← hW0]; exact gb_alloc (gb_alloc (gb_refl _ _) _) _
  have HR0 : Hid (Row W0 h0 26 #[.int .i64 0, .string ⟨#[]⟩, .int .i64 0, .int .i64 0, .slice none 0 0, .string ⟨#[]⟩]) := by
    rw [← hW0, ← hh0, ← hb0]
    have h := Row.new (w.alloc (.cells #[.int .i64 3, .int .i64 xn, .string xs, .slice A 6 c] 51)) 26 #[.int .i64 0, .string ⟨#[]⟩, .int .i64 0, .int .i64 0, .slice none 0 0, .string ⟨#[]⟩]
    rw [World.size_alloc] at h
    exact h
  have hRb : Row W0 b0 51 #[.int .i64 3, .int .i64 xn, .string xs, .slice A 6 c] := by rw [← hW0, ← hb0]; exact (Row.new _ _ _).alloc _
  have HB : Hid (∀ W, W0.grownBy W none → W.cell? ⟨b0, 3, none⟩ = some (.slice A 6 c)) := fun W hW => (hRb.kept hW (by simp)).at_ (i := 3) rfl
  have y0 : W0.cell? ⟨b0, 0, none⟩ = some (.int .i64 3) := hRb.at_ (i := 0) rfl
  have y1 : W0.cell? ⟨b0, 1, none⟩ = some (.int .i64 xn) := hRb.at_ (i := 1) rfl
  have y2 : W0.cell? ⟨b0, 2, none⟩ = some (.string xs) := hRb.at_ (i := 2) rfl
  have y3 : W0.cell? ⟨b0, 3, none⟩ = some (.slice A 6 c) := hRb.at_ (i := 3) rfl
  have Hh0 : Hid (w.heap.size ≤ h0) := by show _ ≤ _; omega
  have HG := Lib.hid G0
  have HI : Hid (∀ W, W0.grownBy W none → ∀ g, Row W g 3 #[.int .i64 1, .int .i64 2, .int .i64 1, .int .i64 1, .int .i64 3, .int .i64 2] → Calls Tryz.prog 44 #[.agg #[.int .i64 3, .int .i64 xn, .string xs, .slice A 6 c], .slice (some ⟨g, 0, none⟩) 6 6] W fun e w' => e = .returned (.bool true) ∧ W.grownBy w' none) := fun W hW g hr =>
    (isList_any (.mk 3 xn xs [a1, a2, a3, a4, a5, a6]) A c g 6 [1, 2, 1, 1, 3, 2] W (h.kept (gb_none G0 hW)) (ints_row [1, 2, 1, 1, 3, 2] hr) hr.lt rfl (by decide)).mono fun _ _ hh => hh.yes ⟨rfl, hk⟩
  obtain ⟨g2, o2, _, _, eA, _, hg2, _, n0, _, _, _⟩ := (h.kept G0).item (i := 0) (x := a1) rfl
  subst eA
  obtain ⟨g4, o4, _, _, eA, _, _, _, _, n1, _, _⟩ := (h.kept G0).item (i := 1) (x := a2) rfl
  cases eA
  obtain ⟨g5, o5, _, _, eA, _, _, _, n2, _, _, _⟩ := (h.kept G0).item (i := 2) (x := a3) rfl
  cases eA
  obtain ⟨g6, o6, _, _, eA, _, _, _, n3, _, _, _⟩ := (h.kept G0).item (i := 3) (x := a4) rfl
  cases eA
  obtain ⟨g8, o8, _, _, eA, _, _, _, _, n5, _, _⟩ := (h.kept G0).item (i := 5) (x := a6) rfl
  cases eA
  obtain ⟨g7, o7, Ae, ce, eA, _, _, e0, e1, e2, e3, hel⟩ := (h.kept G0).item (i := 4) (x := a5) rfl
  cases eA
  have HX : Hid (∀ W, W0.grownBy W none → W.cell? ⟨g2, o2 + 1, none⟩ = some (.int .i64 a1.n) ∧ W.cell? ⟨g2, o2 + 4 + 2, none⟩ = some (.string a2.s) ∧ W.cell? ⟨g2, o2 + 8 + 1, none⟩ = some (.int .i64 a3.n) ∧ W.cell? ⟨g2, o2 + 12 + 1, none⟩ = some (.int .i64 a4.n) ∧ W.cell? ⟨g2, o2 + 20 + 2, none⟩ = some (.string a6.s) ∧ W.cell? ⟨g2, o2 + 16, none⟩ = some (.int .i64 a5.k) ∧ W.cell? ⟨g2, o2 + 16 + 1, none⟩ = some (.int .i64 a5.n) ∧ W.cell? ⟨g2, o2 + 16 + 2, none⟩ = some (.string a5.s) ∧ W.cell? ⟨g2, o2 + 16 + 3, none⟩ = some (.slice Ae a5.l.length ce)) := fun W hW => ⟨(World.cell?_of_block (a := ⟨g2, o2 + 1, none⟩) (hW.block g2 hg2 (by simp))).trans (by simpa using n0), (World.cell?_of_block (a := ⟨g2, o2 + 4 + 2, none⟩) (hW.block g2 hg2 (by simp))).trans (by simpa using n1), (World.cell?_of_block (a := ⟨g2, o2 + 8 + 1, none⟩) (hW.block g2 hg2 (by simp))).trans (by simpa using n2), (World.cell?_of_block (a := ⟨g2, o2 + 12 + 1, none⟩) (hW.block g2 hg2 (by simp))).trans (by simpa using n3), (World.cell?_of_block (a := ⟨g2, o2 + 20 + 2, none⟩) (hW.block g2 hg2 (by simp))).trans (by simpa using n5), (World.cell?_of_block (a := ⟨g2, o2 + 16, none⟩) (hW.block g2 hg2 (by simp))).trans (by simpa using e0), (World.cell?_of_block (a := ⟨g2, o2 + 16 + 1, none⟩) (hW.block g2 hg2 (by simp))).trans (by simpa using e1), (World.cell?_of_block (a := ⟨g2, o2 + 16 + 2, none⟩) (hW.block g2 hg2 (by simp))).trans (by simpa using e2), (World.cell?_of_block (a := ⟨g2, o2 + 16 + 3, none⟩) (hW.block g2 hg2 (by simp))).trans (by simpa using e3)⟩
  have HW : Hid (∀ W, W0.grownBy W none → Calls Tryz.prog 45 #[.agg #[.int .i64 a5.k, .int .i64 a5.n, .string a5.s, .slice Ae a5.l.length ce]] W (WrapsIs a5 W)) := fun W hW => wrapsOf_any a5 Ae ce W (hel.kept hW)
  have Hlen : Hid (a5.l.length ≤ 1099511627776) := hel.len
  clear hRb h G0 hk hg2 hel n0 n1 n2 n3 n5 e0 e1 e2 e3
  go_enter Tryz.func26, Tryz.ntmps26
  go_upto_region 1 with fail
  clear hW0 hh0 hb0
  go_wp2_with fail
  refine (HI.out _ (gb_alloc (gb_refl _ _) _) _ (Row.new _ _ _)).mono ?_
  rintro e w1 ⟨rfl, g1⟩
  have Hg1 := Lib.hid (gb_none (gb_alloc (gb_refl W0 none) _) g1)
  clear g1 y0 y1 y2 y3
  go_upto_region 3 with fail
  obtain ⟨_, _, _, _, _, e0, e1, e2, e3⟩ := HX.out w1 Hg1.out
  have c3 := HB.out w1 Hg1.out
  go_wp2_with fail
  refine (HW.out w1 Hg1.out).mono ?_
  rintro e w2 ⟨hres, g2'⟩
  have Hg2 := Lib.hid (gb_none Hg1.out g2')
  clear g2' e0 e1 e2 e3 c3
  rcases hres with ⟨l, Aw, cw, hl, rfl, hwl, hcw⟩ | ⟨hno, rfl⟩
  · have Hl := Lib.hid hl
    have Hwl := Lib.hid hwl
    have Hcw := Lib.hid hcw
    have Hw1 : Hid (h0 < w1.heap.size) := (HR0.out.kept Hg1.out (by simp)).lt
    have Hlow : Hid (w.heap.size ≤ w1.heap.size) := (gb_none HG.out Hg1.out).size
    have Hll : Hid (l.length ≤ 1099511627776) := by show _ ≤ _; rw [allOf_len Hl.out]; exact Hlen.out
    clear hl hwl hcw
    go_upto_region 6 with fail
    apply wp_region_told_list (le := fun a b => a.grownBy b none) 27 [isV _, isV _, isV _, isV _, isV _, isV _, isV _, isV _, isV _, isV _, isV _, isV _, isV _, isV _, isV _, isV _, isV _, isV _, isV _, isV _, isV _, isV _, isV _, isV _, isV _, isV _, isV _]
    case hC => kernel_rfl
    case hlen => rfl
    case hn => rfl
    case hm => kernel_rfl
    case hB => kernel_rfl
    case ht => exact fun _ _ _ h k => gb_none h k
    case hw => exact gb_drew (gb_refl _ _)
    -- 0: parts.go:23 fieldAddr
    apply head_is
    · intro W f hW hE h0 K hK
      have e1 := h0 1 (by kernel_rfl)
      conv at e1 => rhs; whnf
      clear hE h0
      refine yes_of (want_free rfl) ?_
      go_simp; exact hK _ _ (gb_refl _ _) rfl
    -- 1: parts.go:23 load
    apply head_is
    · intro W f hW hE h0 K hK
      have e22 : f 22 = _ := hE 0 22 _ rfl (by kernel_rfl)
      clear hE h0
      refine yes_of (want_free rfl) ?_
      have c3 := HB.out W (gb_none Hg2.out hW)
      go_simp; exact hK _ _ (gb_refl _ _) rfl
    -- 2: parts.go:23 indexAddr
    apply head_is
    · intro W f hW hE h0 K hK
      have e23 : f 23 = _ := hE 0 23 _ rfl (by kernel_rfl)
      clear hE h0
      refine yes_of (want_free rfl) ?_
      go_simp; exact hK _ _ (gb_refl _ _) rfl
    -- 3: parts.go:23 fieldAddr
    apply head_is
    · intro W f hW hE h0 K hK
      have e24 : f 24 = _ := hE 0 24 _ rfl (by kernel_rfl)
      clear hE h0
      refine yes_of (want_free rfl) ?_
      go_simp; exact hK _ _ (gb_refl _ _) rfl
    -- 4: parts.go:23 load
    apply head_is
    · intro W f hW hE h0 K hK
      have e25 : f 25 = _ := hE 0 25 _ rfl (by kernel_rfl)
      clear hE h0
      refine yes_of (want_free rfl) ?_
      obtain ⟨x1, x2, x3, x4, x6, _⟩ := HX.out W (gb_none Hg2.out hW)
      go_simp; exact hK _ _ (gb_refl _ _) rfl
    -- 5: parts.go:23 fieldAddr
    apply head_is
    · intro W f hW hE h0 K hK
      have e1 := h0 1 (by kernel_rfl)
      conv at e1 => rhs; whnf
      clear hE h0
      refine yes_of (want_free rfl) ?_
      go_simp; exact hK _ _ (gb_refl _ _) rfl
    -- 6: parts.go:23 load
    apply head_is
    · intro W f hW hE h0 K hK
      have e27 : f 27 = _ := hE 0 27 _ rfl (by kernel_rfl)
      clear hE h0
      refine yes_of (want_free rfl) ?_
      have c3 := HB.out W (gb_none Hg2.out hW)
      go_simp; exact hK _ _ (gb_refl _ _) rfl
    -- 7: parts.go:23 indexAddr
    apply head_is
    · intro W f hW hE h0 K hK
      have e28 : f 28 = _ := hE 0 28 _ rfl (by kernel_rfl)
      clear hE h0
      refine yes_of (want_free rfl) ?_
      go_simp; exact hK _ _ (gb_refl _ _) rfl
    -- 8: parts.go:23 fieldAddr
    apply head_is
    · intro W f hW hE h0 K hK
      have e29 : f 29 = _ := hE 0 29 _ rfl (by kernel_rfl)
      clear hE h0
      refine yes_of (want_free rfl) ?_
      go_simp; exact hK _ _ (gb_refl _ _) rfl
    -- 9: parts.go:23 load
    apply head_is
    · intro W f hW hE h0 K hK
      have e30 : f 30 = _ := hE 0 30 _ rfl (by kernel_rfl)
      clear hE h0
      refine yes_of (want_free rfl) ?_
      obtain ⟨x1, x2, x3, x4, x6, _⟩ := HX.out W (gb_none Hg2.out hW)
      go_simp; exact hK _ _ (gb_refl _ _) rfl
    -- 10: parts.go:23 fieldAddr
    apply head_is
    · intro W f hW hE h0 K hK
      have e1 := h0 1 (by kernel_rfl)
      conv at e1 => rhs; whnf
      clear hE h0
      refine yes_of (want_free rfl) ?_
      go_simp; exact hK _ _ (gb_refl _ _) rfl
    -- 11: parts.go:23 load
    apply head_is
    · intro W f hW hE h0 K hK
      have e32 : f 32 = _ := hE 0 32 _ rfl (by kernel_rfl)
      clear hE h0
      refine yes_of (want_free rfl) ?_
      have c3 := HB.out W (gb_none Hg2.out hW)
      go_simp; exact hK _ _ (gb_refl _ _) rfl
    -- 12: parts.go:23 indexAddr
    apply head_is
    · intro W f hW hE h0 K hK
      have e33 : f 33 = _ := hE 0 33 _ rfl (by kernel_rfl)
      clear hE h0
      refine yes_of (want_free rfl) ?_
      go_simp; exact hK _ _ (gb_refl _ _) rfl
    -- 13: parts.go:23 fieldAddr
    apply head_is
    · intro W f hW hE h0 K hK
      have e34 : f 34 = _ := hE 0 34 _ rfl (by kernel_rfl)
      clear hE h0
      refine yes_of (want_free rfl) ?_
      go_simp; exact hK _ _ (gb_refl _ _) rfl
    -- 14: parts.go:23 load
    apply head_is
    · intro W f hW hE h0 K hK
      have e35 : f 35 = _ := hE 0 35 _ rfl (by kernel_rfl)
      clear hE h0
      refine yes_of (want_free rfl) ?_
      obtain ⟨x1, x2, x3, x4, x6, _⟩ := HX.out W (gb_none Hg2.out hW)
      go_simp; exact hK _ _ (gb_refl _ _) rfl
    -- 15: parts.go:23 fieldAddr
    apply head_is
    · intro W f hW hE h0 K hK
      have e1 := h0 1 (by kernel_rfl)
      conv at e1 => rhs; whnf
      clear hE h0
      refine yes_of (want_free rfl) ?_
      go_simp; exact hK _ _ (gb_refl _ _) rfl
    -- 16: parts.go:23 load
    apply head_is
    · intro W f hW hE h0 K hK
      have e37 : f 37 = _ := hE 0 37 _ rfl (by kernel_rfl)
      clear hE h0
      refine yes_of (want_free rfl) ?_
      have c3 := HB.out W (gb_none Hg2.out hW)
      go_simp; exact hK _ _ (gb_refl _ _) rfl
    -- 17: parts.go:23 indexAddr
    apply head_is
    · intro W f hW hE h0 K hK
      have e38 : f 38 = _ := hE 0 38 _ rfl (by kernel_rfl)
      clear hE h0
      refine yes_of (want_free rfl) ?_
      go_simp; exact hK _ _ (gb_refl _ _) rfl
    -- 18: parts.go:23 fieldAddr
    apply head_is
    · intro W f hW hE h0 K hK
      have e39 : f 39 = _ := hE 0 39 _ rfl (by kernel_rfl)
      clear hE h0
      refine yes_of (want_free rfl) ?_
      go_simp; exact hK _ _ (gb_refl _ _) rfl
    -- 19: parts.go:23 load
    apply head_is
    · intro W f hW hE h0 K hK
      have e40 : f 40 = _ := hE 0 40 _ rfl (by kernel_rfl)
      clear hE h0
      refine yes_of (want_free rfl) ?_
      obtain ⟨x1, x2, x3, x4, x6, _⟩ := HX.out W (gb_none Hg2.out hW)
      go_simp; exact hK _ _ (gb_refl _ _) rfl
    -- 20: parts.go:23 move
    apply head_is
    · intro W f hW hE h0 K hK
      have e4 := h0 4 (by kernel_rfl)
      conv at e4 => rhs; whnf
      clear hE h0
      refine yes_of (want_free rfl) ?_
      go_simp; exact hK _ _ (gb_refl _ _) rfl
    -- 21: parts.go:23 fieldAddr
    apply head_is
    · intro W f hW hE h0 K hK
      have e1 := h0 1 (by kernel_rfl)
      conv at e1 => rhs; whnf
      clear hE h0
      refine yes_of (want_free rfl) ?_
      go_simp; exact hK _ _ (gb_refl _ _) rfl
    -- 22: parts.go:23 load
    apply head_is
    · intro W f hW hE h0 K hK
      have e43 : f 43 = _ := hE 0 43 _ rfl (by kernel_rfl)
      clear hE h0
      refine yes_of (want_free rfl) ?_
      have c3 := HB.out W (gb_none Hg2.out hW)
      go_simp; exact hK _ _ (gb_refl _ _) rfl
    -- 23: parts.go:23 indexAddr
    apply head_is
    · intro W f hW hE h0 K hK
      have e44 : f 44 = _ := hE 0 44 _ rfl (by kernel_rfl)
      clear hE h0
      refine yes_of (want_free rfl) ?_
      go_simp; exact hK _ _ (gb_refl _ _) rfl
    -- 24: parts.go:23 fieldAddr
    apply head_is
    · intro W f hW hE h0 K hK
      have e45 : f 45 = _ := hE 0 45 _ rfl (by kernel_rfl)
      clear hE h0
      refine yes_of (want_free rfl) ?_
      go_simp; exact hK _ _ (gb_refl _ _) rfl
    -- 25: parts.go:23 load
    apply head_is
    · intro W f hW hE h0 K hK
      have e46 : f 46 = _ := hE 0 46 _ rfl (by kernel_rfl)
      clear hE h0
      refine yes_of (want_free rfl) ?_
      obtain ⟨x1, x2, x3, x4, x6, _⟩ := HX.out W (gb_none Hg2.out hW)
      go_simp; exact hK _ _ (gb_refl _ _) rfl
    -- 26: parts.go:23 build
    apply head_is
    · intro W f hW hE h0 K hK
      have e26 : f 26 = _ := hE 21 26 _ rfl (by kernel_rfl)
      have e31 : f 31 = _ := hE 16 31 _ rfl (by kernel_rfl)
      have e36 : f 36 = _ := hE 11 36 _ rfl (by kernel_rfl)
      have e41 : f 41 = _ := hE 6 41 _ rfl (by kernel_rfl)
      have e42 : f 42 = _ := hE 5 42 _ rfl (by kernel_rfl)
      have e47 : f 47 = _ := hE 0 47 _ rfl (by kernel_rfl)
      clear hE h0
      refine yes_of (want_free rfl) ?_
      go_simp; exact hK _ _ (gb_refl _ _) rfl
    intro W f hW hA
    simp only [List.take_succ_cons, List.take_zero, List.drop_succ_cons, List.drop_zero, lexIn, Act.put, List.setIfInBounds_toArray, List.set_cons_zero, List.set_cons_succ]
    have e48 : f 48 = _ := hA 0 (some 48) _ rfl
    rw [e48]
    clear hA
    have HGW := Lib.hid (gb_none HG.out (gb_none Hg2.out hW))
    have Hwl2 := Lib.hid (Hwl.out.keep hW)
    have hr := HR0.out.kept (gb_none Hg2.out hW) (by simp)
    have f0 := hr.free 0
    have f1 := hr.free 1
    have f2 := hr.free 2
    have f3 := hr.free 3
    have f4 := hr.free 4
    have f5 := hr.free 5
    have u0 : (W).cell? ⟨h0, 0, none⟩ = some (.int .i64 0) := hr.at_ (i := 0) rfl
    have u1 : (W).cell? ⟨h0, 1, none⟩ = some (.string ⟨#[]⟩) := hr.at_ (i := 1) rfl
    have u2 : (W).cell? ⟨h0, 2, none⟩ = some (.int .i64 0) := hr.at_ (i := 2) rfl
    have u3 : (W).cell? ⟨h0, 3, none⟩ = some (.int .i64 0) := hr.at_ (i := 3) rfl
    have u4 : (W).cell? ⟨h0, 4, none⟩ = some (.slice none 0 0) := hr.at_ (i := 4) rfl
    have u5 : (W).cell? ⟨h0, 5, none⟩ = some (.string ⟨#[]⟩) := hr.at_ (i := 5) rfl
    have Hr := Lib.hid hr
    clear hr
    clear hW
    go_wp2_with fail
    have Hx := Lib.hid ((((((Hr.out.set_ 0 (.int .i64 a1.n)).set_ 1 (.string a2.s)).set_ 2 (.int .i64 a3.n)).set_ 3 (.int .i64 a4.n)).set_ 4 (.slice Aw l.length cw)).set_ 5 (.string a6.s))
    have kk : (W).grownBy (((((((W).setCell ⟨h0, 0, none⟩ (.int .i64 a1.n)).setCell ⟨h0, 1, none⟩ (.string a2.s)).setCell ⟨h0, 2, none⟩ (.int .i64 a3.n)).setCell ⟨h0, 3, none⟩ (.int .i64 a4.n)).setCell ⟨h0, 4, none⟩ (.slice Aw l.length cw)).setCell ⟨h0, 5, none⟩ (.string a6.s)) (some h0) := gb_then (gb_then (gb_then (gb_then (gb_then (gb_set1 _ _ _ _) (gb_set1 _ _ _ _)) (gb_set1 _ _ _ _)) (gb_set1 _ _ _ _)) (gb_set1 _ _ _ _)) (gb_set1 _ _ _ _)
    have q0 : (((((((W).setCell ⟨h0, 0, none⟩ (.int .i64 a1.n)).setCell ⟨h0, 1, none⟩ (.string a2.s)).setCell ⟨h0, 2, none⟩ (.int .i64 a3.n)).setCell ⟨h0, 3, none⟩ (.int .i64 a4.n)).setCell ⟨h0, 4, none⟩ (.slice Aw l.length cw)).setCell ⟨h0, 5, none⟩ (.string a6.s)).cell? ⟨h0, 0, none⟩ = some (.int .i64 a1.n) := Hx.out.at_ (i := 0) rfl
    have q1 : (((((((W).setCell ⟨h0, 0, none⟩ (.int .i64 a1.n)).setCell ⟨h0, 1, none⟩ (.string a2.s)).setCell ⟨h0, 2, none⟩ (.int .i64 a3.n)).setCell ⟨h0, 3, none⟩ (.int .i64 a4.n)).setCell ⟨h0, 4, none⟩ (.slice Aw l.length cw)).setCell ⟨h0, 5, none⟩ (.string a6.s)).cell? ⟨h0, 1, none⟩ = some (.string a2.s) := Hx.out.at_ (i := 1) rfl
    have q2 : (((((((W).setCell ⟨h0, 0, none⟩ (.int .i64 a1.n)).setCell ⟨h0, 1, none⟩ (.string a2.s)).setCell ⟨h0, 2, none⟩ (.int .i64 a3.n)).setCell ⟨h0, 3, none⟩ (.int .i64 a4.n)).setCell ⟨h0, 4, none⟩ (.slice Aw l.length cw)).setCell ⟨h0, 5, none⟩ (.string a6.s)).cell? ⟨h0, 2, none⟩ = some (.int .i64 a3.n) := Hx.out.at_ (i := 2) rfl
    have q3 : (((((((W).setCell ⟨h0, 0, none⟩ (.int .i64 a1.n)).setCell ⟨h0, 1, none⟩ (.string a2.s)).setCell ⟨h0, 2, none⟩ (.int .i64 a3.n)).setCell ⟨h0, 3, none⟩ (.int .i64 a4.n)).setCell ⟨h0, 4, none⟩ (.slice Aw l.length cw)).setCell ⟨h0, 5, none⟩ (.string a6.s)).cell? ⟨h0, 3, none⟩ = some (.int .i64 a4.n) := Hx.out.at_ (i := 3) rfl
    have q4 : (((((((W).setCell ⟨h0, 0, none⟩ (.int .i64 a1.n)).setCell ⟨h0, 1, none⟩ (.string a2.s)).setCell ⟨h0, 2, none⟩ (.int .i64 a3.n)).setCell ⟨h0, 3, none⟩ (.int .i64 a4.n)).setCell ⟨h0, 4, none⟩ (.slice Aw l.length cw)).setCell ⟨h0, 5, none⟩ (.string a6.s)).cell? ⟨h0, 4, none⟩ = some (.slice Aw l.length cw) := Hx.out.at_ (i := 4) rfl
    have q5 : (((((((W).setCell ⟨h0, 0, none⟩ (.int .i64 a1.n)).setCell ⟨h0, 1, none⟩ (.string a2.s)).setCell ⟨h0, 2, none⟩ (.int .i64 a3.n)).setCell ⟨h0, 3, none⟩ (.int .i64 a4.n)).setCell ⟨h0, 4, none⟩ (.slice Aw l.length cw)).setCell ⟨h0, 5, none⟩ (.string a6.s)).cell? ⟨h0, 5, none⟩ = some (.string a6.s) := Hx.out.at_ (i := 5) rfl
    refine bodyPost_ret (v := .tuple #[.agg #[.int .i64 a1.n, .string a2.s, .int .i64 a3.n, .int .i64 a4.n, .slice Aw l.length cw, .string a6.s], .bool true]) (by simp [results, Tryz.results26, go_sem, q0, q1, q2, q3, q4, q5]) rfl ?_
    have HGG := Lib.hid (gb_new (HGW.out) kk Hh0.out)
    exact ⟨.inl ⟨l, Aw, cw, Hl.out, rfl, (Hwl2.out.past kk (fun i e => by cases e; exact Hw1.out)).low Hlow.out, Hcw.out, Hll.out⟩, HGG.out⟩
  · have HN := Lib.hid hno
    clear hno
    have hr := HR0.out.kept (Hg2.out) (by simp)
    have f0 := hr.free 0
    have f1 := hr.free 1
    have f2 := hr.free 2
    have f3 := hr.free 3
    have f4 := hr.free 4
    have f5 := hr.free 5
    have u0 : (w2).cell? ⟨h0, 0, none⟩ = some (.int .i64 0) := hr.at_ (i := 0) rfl
    have u1 : (w2).cell? ⟨h0, 1, none⟩ = some (.string ⟨#[]⟩) := hr.at_ (i := 1) rfl
    have u2 : (w2).cell? ⟨h0, 2, none⟩ = some (.int .i64 0) := hr.at_ (i := 2) rfl
    have u3 : (w2).cell? ⟨h0, 3, none⟩ = some (.int .i64 0) := hr.at_ (i := 3) rfl
    have u4 : (w2).cell? ⟨h0, 4, none⟩ = some (.slice none 0 0) := hr.at_ (i := 4) rfl
    have u5 : (w2).cell? ⟨h0, 5, none⟩ = some (.string ⟨#[]⟩) := hr.at_ (i := 5) rfl
    have Hr := Lib.hid hr
    clear hr
    go_wp2_with fail
    have Hx := Lib.hid ((((((Hr.out.set_ 0 (.int .i64 0)).set_ 1 (.string ⟨#[]⟩)).set_ 2 (.int .i64 0)).set_ 3 (.int .i64 0)).set_ 4 (.slice none 0 0)).set_ 5 (.string ⟨#[]⟩))
    have kk : (w2).grownBy (((((((w2).setCell ⟨h0, 0, none⟩ (.int .i64 0)).setCell ⟨h0, 1, none⟩ (.string ⟨#[]⟩)).setCell ⟨h0, 2, none⟩ (.int .i64 0)).setCell ⟨h0, 3, none⟩ (.int .i64 0)).setCell ⟨h0, 4, none⟩ (.slice none 0 0)).setCell ⟨h0, 5, none⟩ (.string ⟨#[]⟩)) (some h0) := gb_then (gb_then (gb_then (gb_then (gb_then (gb_set1 _ _ _ _) (gb_set1 _ _ _ _)) (gb_set1 _ _ _ _)) (gb_set1 _ _ _ _)) (gb_set1 _ _ _ _)) (gb_set1 _ _ _ _)
    have q0 : (((((((w2).setCell ⟨h0, 0, none⟩ (.int .i64 0)).setCell ⟨h0, 1, none⟩ (.string ⟨#[]⟩)).setCell ⟨h0, 2, none⟩ (.int .i64 0)).setCell ⟨h0, 3, none⟩ (.int .i64 0)).setCell ⟨h0, 4, none⟩ (.slice none 0 0)).setCell ⟨h0, 5, none⟩ (.string ⟨#[]⟩)).cell? ⟨h0, 0, none⟩ = some (.int .i64 0) := Hx.out.at_ (i := 0) rfl
    have q1 : (((((((w2).setCell ⟨h0, 0, none⟩ (.int .i64 0)).setCell ⟨h0, 1, none⟩ (.string ⟨#[]⟩)).setCell ⟨h0, 2, none⟩ (.int .i64 0)).setCell ⟨h0, 3, none⟩ (.int .i64 0)).setCell ⟨h0, 4, none⟩ (.slice none 0 0)).setCell ⟨h0, 5, none⟩ (.string ⟨#[]⟩)).cell? ⟨h0, 1, none⟩ = some (.string ⟨#[]⟩) := Hx.out.at_ (i := 1) rfl
    have q2 : (((((((w2).setCell ⟨h0, 0, none⟩ (.int .i64 0)).setCell ⟨h0, 1, none⟩ (.string ⟨#[]⟩)).setCell ⟨h0, 2, none⟩ (.int .i64 0)).setCell ⟨h0, 3, none⟩ (.int .i64 0)).setCell ⟨h0, 4, none⟩ (.slice none 0 0)).setCell ⟨h0, 5, none⟩ (.string ⟨#[]⟩)).cell? ⟨h0, 2, none⟩ = some (.int .i64 0) := Hx.out.at_ (i := 2) rfl
    have q3 : (((((((w2).setCell ⟨h0, 0, none⟩ (.int .i64 0)).setCell ⟨h0, 1, none⟩ (.string ⟨#[]⟩)).setCell ⟨h0, 2, none⟩ (.int .i64 0)).setCell ⟨h0, 3, none⟩ (.int .i64 0)).setCell ⟨h0, 4, none⟩ (.slice none 0 0)).setCell ⟨h0, 5, none⟩ (.string ⟨#[]⟩)).cell? ⟨h0, 3, none⟩ = some (.int .i64 0) := Hx.out.at_ (i := 3) rfl
    have q4 : (((((((w2).setCell ⟨h0, 0, none⟩ (.int .i64 0)).setCell ⟨h0, 1, none⟩ (.string ⟨#[]⟩)).setCell ⟨h0, 2, none⟩ (.int .i64 0)).setCell ⟨h0, 3, none⟩ (.int .i64 0)).setCell ⟨h0, 4, none⟩ (.slice none 0 0)).setCell ⟨h0, 5, none⟩ (.string ⟨#[]⟩)).cell? ⟨h0, 4, none⟩ = some (.slice none 0 0) := Hx.out.at_ (i := 4) rfl
    have q5 : (((((((w2).setCell ⟨h0, 0, none⟩ (.int .i64 0)).setCell ⟨h0, 1, none⟩ (.string ⟨#[]⟩)).setCell ⟨h0, 2, none⟩ (.int .i64 0)).setCell ⟨h0, 3, none⟩ (.int .i64 0)).setCell ⟨h0, 4, none⟩ (.slice none 0 0)).setCell ⟨h0, 5, none⟩ (.string ⟨#[]⟩)).cell? ⟨h0, 5, none⟩ = some (.string ⟨#[]⟩) := Hx.out.at_ (i := 5) rfl
    refine bodyPost_ret (v := .tuple #[.agg #[.int .i64 0, .string ⟨#[]⟩, .int .i64 0, .int .i64 0, .slice none 0 0, .string ⟨#[]⟩], .bool false]) (by simp [results, Tryz.results26, go_sem, q0, q1, q2, q3, q4, q5]) rfl ?_
    have HGG := Lib.hid (gb_new (gb_none HG.out Hg2.out) kk Hh0.out)
    exact ⟨.inr ⟨HN.out, rfl⟩, HGG.out⟩
theorem recordOf_any (x : Wr) (A : Option Addr) (c : Nat) (w : World) (h : HL w 0 (.slice A x.l.length c) x.l) : Calls Tryz.prog 26 #[.agg #[.int .i64 x.k, .int .i64 x.n, .string x.s, .slice A x.l.length c]] w (RecOfIs x w) := by
  by_cases hc : x.k = 3 ∧ x.l.map Wr.k = [1, 2, 1, 1, 3, 2]
  · obtain ⟨a1, a2, a3, a4, a5, a6, el, _, he⟩ := recOfW_of hc
    obtain ⟨xk, xn, xs, l⟩ := x
    obtain rfl : xk = 3 := hc.1
    obtain rfl : l = [a1, a2, a3, a4, a5, a6] := el
    refine (recordOf_yes a1 a2 a3 a4 a5 a6 xn xs A c w h hc.2).mono fun e w' hh => ⟨?_, hh.2⟩
    rcases hh.1 with ⟨l, Aw, cw, hl, rfl, h1, h2, h3⟩ | ⟨hn, rfl⟩
    · exact .inl ⟨⟨a1.n, a2.s, a3.n, a4.n, l, a6.s⟩, Aw, cw, by rw [he, hl]; rfl, rfl, h1, h2, h3⟩
    · exact .inr ⟨by rw [he, hn]; rfl, rfl⟩
  · exact (recordOf_no x A c w h hc).mono fun e w' hh => ⟨.inr ⟨recOfW_no hc, hh.1⟩, hh.2⟩
/-- What Get says of bytes. -/
def GetIs (s : ByteArray) (w : World) (e : Ending) (w' : World) : Prop := ((∃ r A c, IsRec s.data.toList r ∧ e = .returned (.tuple #[.agg (recCs r A c), .bool true]) ∧ WLb w' w.heap.size A r.wraps.length r.wraps ∧ r.wraps.length ≤ c) ∨ ((∀ r, ¬ IsRec s.data.toList r) ∧ e = .returned (.tuple #[.agg #[.int .i64 0, .string ⟨#[]⟩, .int .i64 0, .int .i64 0, .slice none 0 0, .string ⟨#[]⟩], .bool false]))) ∧ w.grownBy w' none
set_option maxHeartbeats 16000000 in
set_option maxRecDepth 100000 in
theorem get_any (s : ByteArray) (w : World) (hs : s.data.toList.length ≤ 1099511627776) (hT : ErrT w) : Calls Tryz.prog 13 #[.string s] w (GetIs s w) := by
  obtain ⟨h0, hh0⟩ : ∃ h0, w.heap.size = h0 := ⟨_, rfl⟩
  obtain ⟨W0, hW0⟩ : ∃ W0, w.alloc (.cells #[.int .i64 0, .string ⟨#[]⟩, .int .i64 0, .int .i64 0, .slice none 0 0, .string ⟨#[]⟩] 26) = W0 := ⟨_, rfl⟩
  have G0 : w.grownBy W0 none := by rw [← hW0]; exact gb_alloc (gb_refl _ _) _
  have HR0 : Hid (Row W0 h0 26 #[.int .i64 0, .string ⟨#[]⟩, .int .i64 0, .int .i64 0, .slice none 0 0, .string ⟨#[]⟩]) := by rw [← hW0, ← hh0]; exact Row.new _ _ _
  have Hh0 : Hid (w.heap.size ≤ h0) := by show _ ≤ _; omega
  have HG := Lib.hid G0
  cases hg : get s.data.toList with
  | none =>
    have HGet := Lib.hid (get_none s W0 hs hg (hT.keep G0 (by simp)))
    have HNo : Hid (∀ r, ¬ IsRec s.data.toList r) := isRec_none hg
    clear G0 hg hs hT
    go_enter Tryz.func13, Tryz.ntmps13
    go_upto_region 1 with fail
    clear hW0 hh0
    go_wp2_with fail
    refine HGet.out.mono ?_
    rintro e w1 ⟨rfl, g1⟩
    have Hgz := Lib.hid (gb_alloc g1 (.cells #[.int .i64 0, .int .i64 0, .string ⟨#[]⟩, .slice none 0 0] 51))
    clear g1
    have hr := HR0.out.kept (Hgz.out) (by simp)
    have f0 := hr.free 0
    have f1 := hr.free 1
    have f2 := hr.free 2
    have f3 := hr.free 3
    have f4 := hr.free 4
    have f5 := hr.free 5
    have u0 : (w1.alloc (.cells #[.int .i64 0, .int .i64 0, .string ⟨#[]⟩, .slice none 0 0] 51)).cell? ⟨h0, 0, none⟩ = some (.int .i64 0) := hr.at_ (i := 0) rfl
    have u1 : (w1.alloc (.cells #[.int .i64 0, .int .i64 0, .string ⟨#[]⟩, .slice none 0 0] 51)).cell? ⟨h0, 1, none⟩ = some (.string ⟨#[]⟩) := hr.at_ (i := 1) rfl
    have u2 : (w1.alloc (.cells #[.int .i64 0, .int .i64 0, .string ⟨#[]⟩, .slice none 0 0] 51)).cell? ⟨h0, 2, none⟩ = some (.int .i64 0) := hr.at_ (i := 2) rfl
    have u3 : (w1.alloc (.cells #[.int .i64 0, .int .i64 0, .string ⟨#[]⟩, .slice none 0 0] 51)).cell? ⟨h0, 3, none⟩ = some (.int .i64 0) := hr.at_ (i := 3) rfl
    have u4 : (w1.alloc (.cells #[.int .i64 0, .int .i64 0, .string ⟨#[]⟩, .slice none 0 0] 51)).cell? ⟨h0, 4, none⟩ = some (.slice none 0 0) := hr.at_ (i := 4) rfl
    have u5 : (w1.alloc (.cells #[.int .i64 0, .int .i64 0, .string ⟨#[]⟩, .slice none 0 0] 51)).cell? ⟨h0, 5, none⟩ = some (.string ⟨#[]⟩) := hr.at_ (i := 5) rfl
    have Hr := Lib.hid hr
    clear hr
    go_wp2_with fail
    have Hx := Lib.hid ((((((Hr.out.set_ 0 (.int .i64 0)).set_ 1 (.string ⟨#[]⟩)).set_ 2 (.int .i64 0)).set_ 3 (.int .i64 0)).set_ 4 (.slice none 0 0)).set_ 5 (.string ⟨#[]⟩))
    have kk : (w1.alloc (.cells #[.int .i64 0, .int .i64 0, .string ⟨#[]⟩, .slice none 0 0] 51)).grownBy (((((((w1.alloc (.cells #[.int .i64 0, .int .i64 0, .string ⟨#[]⟩, .slice none 0 0] 51)).setCell ⟨h0, 0, none⟩ (.int .i64 0)).setCell ⟨h0, 1, none⟩ (.string ⟨#[]⟩)).setCell ⟨h0, 2, none⟩ (.int .i64 0)).setCell ⟨h0, 3, none⟩ (.int .i64 0)).setCell ⟨h0, 4, none⟩ (.slice none 0 0)).setCell ⟨h0, 5, none⟩ (.string ⟨#[]⟩)) (some h0) := gb_then (gb_then (gb_then (gb_then (gb_then (gb_set1 _ _ _ _) (gb_set1 _ _ _ _)) (gb_set1 _ _ _ _)) (gb_set1 _ _ _ _)) (gb_set1 _ _ _ _)) (gb_set1 _ _ _ _)
    have q0 : (((((((w1.alloc (.cells #[.int .i64 0, .int .i64 0, .string ⟨#[]⟩, .slice none 0 0] 51)).setCell ⟨h0, 0, none⟩ (.int .i64 0)).setCell ⟨h0, 1, none⟩ (.string ⟨#[]⟩)).setCell ⟨h0, 2, none⟩ (.int .i64 0)).setCell ⟨h0, 3, none⟩ (.int .i64 0)).setCell ⟨h0, 4, none⟩ (.slice none 0 0)).setCell ⟨h0, 5, none⟩ (.string ⟨#[]⟩)).cell? ⟨h0, 0, none⟩ = some (.int .i64 0) := Hx.out.at_ (i := 0) rfl
    have q1 : (((((((w1.alloc (.cells #[.int .i64 0, .int .i64 0, .string ⟨#[]⟩, .slice none 0 0] 51)).setCell ⟨h0, 0, none⟩ (.int .i64 0)).setCell ⟨h0, 1, none⟩ (.string ⟨#[]⟩)).setCell ⟨h0, 2, none⟩ (.int .i64 0)).setCell ⟨h0, 3, none⟩ (.int .i64 0)).setCell ⟨h0, 4, none⟩ (.slice none 0 0)).setCell ⟨h0, 5, none⟩ (.string ⟨#[]⟩)).cell? ⟨h0, 1, none⟩ = some (.string ⟨#[]⟩) := Hx.out.at_ (i := 1) rfl
    have q2 : (((((((w1.alloc (.cells #[.int .i64 0, .int .i64 0, .string ⟨#[]⟩, .slice none 0 0] 51)).setCell ⟨h0, 0, none⟩ (.int .i64 0)).setCell ⟨h0, 1, none⟩ (.string ⟨#[]⟩)).setCell ⟨h0, 2, none⟩ (.int .i64 0)).setCell ⟨h0, 3, none⟩ (.int .i64 0)).setCell ⟨h0, 4, none⟩ (.slice none 0 0)).setCell ⟨h0, 5, none⟩ (.string ⟨#[]⟩)).cell? ⟨h0, 2, none⟩ = some (.int .i64 0) := Hx.out.at_ (i := 2) rfl
    have q3 : (((((((w1.alloc (.cells #[.int .i64 0, .int .i64 0, .string ⟨#[]⟩, .slice none 0 0] 51)).setCell ⟨h0, 0, none⟩ (.int .i64 0)).setCell ⟨h0, 1, none⟩ (.string ⟨#[]⟩)).setCell ⟨h0, 2, none⟩ (.int .i64 0)).setCell ⟨h0, 3, none⟩ (.int .i64 0)).setCell ⟨h0, 4, none⟩ (.slice none 0 0)).setCell ⟨h0, 5, none⟩ (.string ⟨#[]⟩)).cell? ⟨h0, 3, none⟩ = some (.int .i64 0) := Hx.out.at_ (i := 3) rfl
    have q4 : (((((((w1.alloc (.cells #[.int .i64 0, .int .i64 0, .string ⟨#[]⟩, .slice none 0 0] 51)).setCell ⟨h0, 0, none⟩ (.int .i64 0)).setCell ⟨h0, 1, none⟩ (.string ⟨#[]⟩)).setCell ⟨h0, 2, none⟩ (.int .i64 0)).setCell ⟨h0, 3, none⟩ (.int .i64 0)).setCell ⟨h0, 4, none⟩ (.slice none 0 0)).setCell ⟨h0, 5, none⟩ (.string ⟨#[]⟩)).cell? ⟨h0, 4, none⟩ = some (.slice none 0 0) := Hx.out.at_ (i := 4) rfl
    have q5 : (((((((w1.alloc (.cells #[.int .i64 0, .int .i64 0, .string ⟨#[]⟩, .slice none 0 0] 51)).setCell ⟨h0, 0, none⟩ (.int .i64 0)).setCell ⟨h0, 1, none⟩ (.string ⟨#[]⟩)).setCell ⟨h0, 2, none⟩ (.int .i64 0)).setCell ⟨h0, 3, none⟩ (.int .i64 0)).setCell ⟨h0, 4, none⟩ (.slice none 0 0)).setCell ⟨h0, 5, none⟩ (.string ⟨#[]⟩)).cell? ⟨h0, 5, none⟩ = some (.string ⟨#[]⟩) := Hx.out.at_ (i := 5) rfl
    refine bodyPost_ret (v := .tuple #[.agg #[.int .i64 0, .string ⟨#[]⟩, .int .i64 0, .int .i64 0, .slice none 0 0, .string ⟨#[]⟩], .bool false]) (by simp [results, Tryz.results13, go_sem, q0, q1, q2, q3, q4, q5]) rfl ?_
    have HGG := Lib.hid (gb_new (gb_none HG.out Hgz.out) kk Hh0.out)
    exact ⟨.inr ⟨HNo.out, rfl⟩, HGG.out⟩
  | some x =>
    have HGet := Lib.hid (get_some s W0 hs x hg)
    have Hgx := Lib.hid hg
    have HRO : Hid (∀ (A : Option Addr) (c : Nat) W, HL W 0 (.slice A x.l.length c) x.l → Calls Tryz.prog 26 #[.agg #[.int .i64 x.k, .int .i64 x.n, .string x.s, .slice A x.l.length c]] W (RecOfIs x W)) := fun A c W h => recordOf_any x A c W h
    clear G0 hg hs hT
    go_enter Tryz.func13, Tryz.ntmps13
    go_upto_region 1 with fail
    clear hW0 hh0
    go_wp2_with fail
    refine HGet.out.mono ?_
    rintro e w1 ⟨A, c, rfl, hl, g1⟩
    have HL1 := Lib.hid (hl.low (Nat.zero_le _))
    have Hg1 := Lib.hid g1
    have HR9 := Lib.hid (HRO.out A c)
    obtain ⟨ln, hln⟩ : ∃ ln, x.l.length = ln := ⟨_, rfl⟩
    rw [hln] at HL1 HR9 ⊢
    clear hl g1 HGet HRO hln
    generalize x.k = xk at *
    generalize x.n = xn at *
    generalize x.s = xs at *
    go_wp2_with fail
    refine (HR9.out _ (HL1.out.kept (gb_alloc (gb_refl _ _) _))).mono ?_
    rintro e w2 ⟨hres, g2⟩
    have Hg2 := Lib.hid (gb_none (gb_alloc Hg1.out _) g2)
    have Hw1 : Hid (h0 < w1.heap.size) := (HR0.out.kept Hg1.out (by simp)).lt
    clear g2
    rcases hres with ⟨r, A2, c2, hr, rfl, hwl, hc2, hn2⟩ | ⟨hno, rfl⟩
    · have hwl1 := hwl.low (Nat.le_trans (Nat.le_of_lt (Nat.lt_succ_self _)) (by rw [World.size_alloc]; exact Nat.le_refl _) : w1.heap.size ≤ _)
      have Hwl := Lib.hid hwl1
      have Hc2 := Lib.hid hc2
      have HMy : Hid (∀ W, w2.grownBy W none → Calls Tryz.prog 27 #[.agg #[.int .i64 r.seq, .string r.prev, .int .i64 r.kind, .int .i64 r.dev, .slice A2 r.wraps.length c2, .string r.tag]] W (BoolIs (MayR r) W)) := fun W hW => may_any r A2 c2 W (hwl1.keep hW).wl hn2
      clear hwl hwl1 hc2 hn2
      obtain ⟨b6, hb6⟩ : ∃ b6, w2.heap.size = b6 := ⟨_, rfl⟩
      obtain ⟨W3, hW3⟩ : ∃ W3, w2.alloc (.cells #[.int .i64 r.seq, .string r.prev, .int .i64 r.kind, .int .i64 r.dev, .slice A2 r.wraps.length c2, .string r.tag] 26) = W3 := ⟨_, rfl⟩
      have HB6 : Hid (Row W3 b6 26 #[.int .i64 r.seq, .string r.prev, .int .i64 r.kind, .int .i64 r.dev, .slice A2 r.wraps.length c2, .string r.tag]) := by rw [← hW3, ← hb6]; exact Row.new _ _ _
      have g3 : w2.grownBy W3 none := by rw [← hW3]; exact gb_alloc (gb_refl _ _) _
      have Hg3 : Hid (W0.grownBy W3 none) := gb_none Hg2.out g3
      have HM3 := Lib.hid (HMy.out W3 g3)
      have Hwl3 := Lib.hid (Hwl.out.keep g3)
      obtain ⟨y0, y1, y2, y3, y4, y5⟩ := rec_row HB6.out
      clear g3 HMy Hwl
      go_upto_region 5 with fail
      clear hW3 hb6
      by_cases hm : MayR r
      · have HI : Hid (IsRec s.data.toList r) := isRec_of Hgx.out hr hm
        go_wp2_with fail
        refine HM3.out.mono ?_
        intro e w4 hh
        obtain ⟨he, g4⟩ := hh.yes hm
        subst he
        have Hg4 := Lib.hid (gb_none Hg3.out g4)
        have Hwl4 := Lib.hid (Hwl3.out.keep g4)
        clear hh y0 y1 y2 y3 y4 y5
        obtain ⟨y0, y1, y2, y3, y4, y5⟩ := rec_row (HB6.out.kept g4 (by simp))
        have hr := HR0.out.kept (Hg4.out) (by simp)
        have f0 := hr.free 0
        have f1 := hr.free 1
        have f2 := hr.free 2
        have f3 := hr.free 3
        have f4 := hr.free 4
        have f5 := hr.free 5
        have u0 : (w4).cell? ⟨h0, 0, none⟩ = some (.int .i64 0) := hr.at_ (i := 0) rfl
        have u1 : (w4).cell? ⟨h0, 1, none⟩ = some (.string ⟨#[]⟩) := hr.at_ (i := 1) rfl
        have u2 : (w4).cell? ⟨h0, 2, none⟩ = some (.int .i64 0) := hr.at_ (i := 2) rfl
        have u3 : (w4).cell? ⟨h0, 3, none⟩ = some (.int .i64 0) := hr.at_ (i := 3) rfl
        have u4 : (w4).cell? ⟨h0, 4, none⟩ = some (.slice none 0 0) := hr.at_ (i := 4) rfl
        have u5 : (w4).cell? ⟨h0, 5, none⟩ = some (.string ⟨#[]⟩) := hr.at_ (i := 5) rfl
        have Hr := Lib.hid hr
        clear hr
        clear g4 hm hr
        go_wp2_with fail
        have Hx := Lib.hid ((((((Hr.out.set_ 0 (.int .i64 r.seq)).set_ 1 (.string r.prev)).set_ 2 (.int .i64 r.kind)).set_ 3 (.int .i64 r.dev)).set_ 4 (.slice A2 r.wraps.length c2)).set_ 5 (.string r.tag))
        have kk : (w4).grownBy (((((((w4).setCell ⟨h0, 0, none⟩ (.int .i64 r.seq)).setCell ⟨h0, 1, none⟩ (.string r.prev)).setCell ⟨h0, 2, none⟩ (.int .i64 r.kind)).setCell ⟨h0, 3, none⟩ (.int .i64 r.dev)).setCell ⟨h0, 4, none⟩ (.slice A2 r.wraps.length c2)).setCell ⟨h0, 5, none⟩ (.string r.tag)) (some h0) := gb_then (gb_then (gb_then (gb_then (gb_then (gb_set1 _ _ _ _) (gb_set1 _ _ _ _)) (gb_set1 _ _ _ _)) (gb_set1 _ _ _ _)) (gb_set1 _ _ _ _)) (gb_set1 _ _ _ _)
        have q0 : (((((((w4).setCell ⟨h0, 0, none⟩ (.int .i64 r.seq)).setCell ⟨h0, 1, none⟩ (.string r.prev)).setCell ⟨h0, 2, none⟩ (.int .i64 r.kind)).setCell ⟨h0, 3, none⟩ (.int .i64 r.dev)).setCell ⟨h0, 4, none⟩ (.slice A2 r.wraps.length c2)).setCell ⟨h0, 5, none⟩ (.string r.tag)).cell? ⟨h0, 0, none⟩ = some (.int .i64 r.seq) := Hx.out.at_ (i := 0) rfl
        have q1 : (((((((w4).setCell ⟨h0, 0, none⟩ (.int .i64 r.seq)).setCell ⟨h0, 1, none⟩ (.string r.prev)).setCell ⟨h0, 2, none⟩ (.int .i64 r.kind)).setCell ⟨h0, 3, none⟩ (.int .i64 r.dev)).setCell ⟨h0, 4, none⟩ (.slice A2 r.wraps.length c2)).setCell ⟨h0, 5, none⟩ (.string r.tag)).cell? ⟨h0, 1, none⟩ = some (.string r.prev) := Hx.out.at_ (i := 1) rfl
        have q2 : (((((((w4).setCell ⟨h0, 0, none⟩ (.int .i64 r.seq)).setCell ⟨h0, 1, none⟩ (.string r.prev)).setCell ⟨h0, 2, none⟩ (.int .i64 r.kind)).setCell ⟨h0, 3, none⟩ (.int .i64 r.dev)).setCell ⟨h0, 4, none⟩ (.slice A2 r.wraps.length c2)).setCell ⟨h0, 5, none⟩ (.string r.tag)).cell? ⟨h0, 2, none⟩ = some (.int .i64 r.kind) := Hx.out.at_ (i := 2) rfl
        have q3 : (((((((w4).setCell ⟨h0, 0, none⟩ (.int .i64 r.seq)).setCell ⟨h0, 1, none⟩ (.string r.prev)).setCell ⟨h0, 2, none⟩ (.int .i64 r.kind)).setCell ⟨h0, 3, none⟩ (.int .i64 r.dev)).setCell ⟨h0, 4, none⟩ (.slice A2 r.wraps.length c2)).setCell ⟨h0, 5, none⟩ (.string r.tag)).cell? ⟨h0, 3, none⟩ = some (.int .i64 r.dev) := Hx.out.at_ (i := 3) rfl
        have q4 : (((((((w4).setCell ⟨h0, 0, none⟩ (.int .i64 r.seq)).setCell ⟨h0, 1, none⟩ (.string r.prev)).setCell ⟨h0, 2, none⟩ (.int .i64 r.kind)).setCell ⟨h0, 3, none⟩ (.int .i64 r.dev)).setCell ⟨h0, 4, none⟩ (.slice A2 r.wraps.length c2)).setCell ⟨h0, 5, none⟩ (.string r.tag)).cell? ⟨h0, 4, none⟩ = some (.slice A2 r.wraps.length c2) := Hx.out.at_ (i := 4) rfl
        have q5 : (((((((w4).setCell ⟨h0, 0, none⟩ (.int .i64 r.seq)).setCell ⟨h0, 1, none⟩ (.string r.prev)).setCell ⟨h0, 2, none⟩ (.int .i64 r.kind)).setCell ⟨h0, 3, none⟩ (.int .i64 r.dev)).setCell ⟨h0, 4, none⟩ (.slice A2 r.wraps.length c2)).setCell ⟨h0, 5, none⟩ (.string r.tag)).cell? ⟨h0, 5, none⟩ = some (.string r.tag) := Hx.out.at_ (i := 5) rfl
        refine bodyPost_ret (v := .tuple #[.agg #[.int .i64 r.seq, .string r.prev, .int .i64 r.kind, .int .i64 r.dev, .slice A2 r.wraps.length c2, .string r.tag], .bool true]) (by simp [results, Tryz.results13, go_sem, q0, q1, q2, q3, q4, q5]) rfl ?_
        have HGG := Lib.hid (gb_new (gb_none HG.out Hg4.out) kk Hh0.out)
        exact ⟨.inl ⟨r, A2, c2, HI.out, rfl, (Hwl4.out.past kk (fun i e => by cases e; exact Hw1.out)).low (gb_none HG.out Hg1.out).size, Hc2.out⟩, HGG.out⟩
      · have HNo : Hid (∀ t, ¬ IsRec s.data.toList t) := isRec_nomay Hgx.out hr hm
        go_wp2_with fail
        refine HM3.out.mono ?_
        intro e w4 hh
        obtain ⟨he, g4⟩ := hh.no hm
        subst he
        have Hg4 := Lib.hid (gb_none Hg3.out g4)
        clear hh y0 y1 y2 y3 y4 y5
        have hr := HR0.out.kept (Hg4.out) (by simp)
        have f0 := hr.free 0
        have f1 := hr.free 1
        have f2 := hr.free 2
        have f3 := hr.free 3
        have f4 := hr.free 4
        have f5 := hr.free 5
        have u0 : (w4).cell? ⟨h0, 0, none⟩ = some (.int .i64 0) := hr.at_ (i := 0) rfl
        have u1 : (w4).cell? ⟨h0, 1, none⟩ = some (.string ⟨#[]⟩) := hr.at_ (i := 1) rfl
        have u2 : (w4).cell? ⟨h0, 2, none⟩ = some (.int .i64 0) := hr.at_ (i := 2) rfl
        have u3 : (w4).cell? ⟨h0, 3, none⟩ = some (.int .i64 0) := hr.at_ (i := 3) rfl
        have u4 : (w4).cell? ⟨h0, 4, none⟩ = some (.slice none 0 0) := hr.at_ (i := 4) rfl
        have u5 : (w4).cell? ⟨h0, 5, none⟩ = some (.string ⟨#[]⟩) := hr.at_ (i := 5) rfl
        have Hr := Lib.hid hr
        clear hr
        clear g4 hm hr
        go_wp2_with fail
        have Hx := Lib.hid ((((((Hr.out.set_ 0 (.int .i64 0)).set_ 1 (.string ⟨#[]⟩)).set_ 2 (.int .i64 0)).set_ 3 (.int .i64 0)).set_ 4 (.slice none 0 0)).set_ 5 (.string ⟨#[]⟩))
        have kk : (w4).grownBy (((((((w4).setCell ⟨h0, 0, none⟩ (.int .i64 0)).setCell ⟨h0, 1, none⟩ (.string ⟨#[]⟩)).setCell ⟨h0, 2, none⟩ (.int .i64 0)).setCell ⟨h0, 3, none⟩ (.int .i64 0)).setCell ⟨h0, 4, none⟩ (.slice none 0 0)).setCell ⟨h0, 5, none⟩ (.string ⟨#[]⟩)) (some h0) := gb_then (gb_then (gb_then (gb_then (gb_then (gb_set1 _ _ _ _) (gb_set1 _ _ _ _)) (gb_set1 _ _ _ _)) (gb_set1 _ _ _ _)) (gb_set1 _ _ _ _)) (gb_set1 _ _ _ _)
        have q0 : (((((((w4).setCell ⟨h0, 0, none⟩ (.int .i64 0)).setCell ⟨h0, 1, none⟩ (.string ⟨#[]⟩)).setCell ⟨h0, 2, none⟩ (.int .i64 0)).setCell ⟨h0, 3, none⟩ (.int .i64 0)).setCell ⟨h0, 4, none⟩ (.slice none 0 0)).setCell ⟨h0, 5, none⟩ (.string ⟨#[]⟩)).cell? ⟨h0, 0, none⟩ = some (.int .i64 0) := Hx.out.at_ (i := 0) rfl
        have q1 : (((((((w4).setCell ⟨h0, 0, none⟩ (.int .i64 0)).setCell ⟨h0, 1, none⟩ (.string ⟨#[]⟩)).setCell ⟨h0, 2, none⟩ (.int .i64 0)).setCell ⟨h0, 3, none⟩ (.int .i64 0)).setCell ⟨h0, 4, none⟩ (.slice none 0 0)).setCell ⟨h0, 5, none⟩ (.string ⟨#[]⟩)).cell? ⟨h0, 1, none⟩ = some (.string ⟨#[]⟩) := Hx.out.at_ (i := 1) rfl
        have q2 : (((((((w4).setCell ⟨h0, 0, none⟩ (.int .i64 0)).setCell ⟨h0, 1, none⟩ (.string ⟨#[]⟩)).setCell ⟨h0, 2, none⟩ (.int .i64 0)).setCell ⟨h0, 3, none⟩ (.int .i64 0)).setCell ⟨h0, 4, none⟩ (.slice none 0 0)).setCell ⟨h0, 5, none⟩ (.string ⟨#[]⟩)).cell? ⟨h0, 2, none⟩ = some (.int .i64 0) := Hx.out.at_ (i := 2) rfl
        have q3 : (((((((w4).setCell ⟨h0, 0, none⟩ (.int .i64 0)).setCell ⟨h0, 1, none⟩ (.string ⟨#[]⟩)).setCell ⟨h0, 2, none⟩ (.int .i64 0)).setCell ⟨h0, 3, none⟩ (.int .i64 0)).setCell ⟨h0, 4, none⟩ (.slice none 0 0)).setCell ⟨h0, 5, none⟩ (.string ⟨#[]⟩)).cell? ⟨h0, 3, none⟩ = some (.int .i64 0) := Hx.out.at_ (i := 3) rfl
        have q4 : (((((((w4).setCell ⟨h0, 0, none⟩ (.int .i64 0)).setCell ⟨h0, 1, none⟩ (.string ⟨#[]⟩)).setCell ⟨h0, 2, none⟩ (.int .i64 0)).setCell ⟨h0, 3, none⟩ (.int .i64 0)).setCell ⟨h0, 4, none⟩ (.slice none 0 0)).setCell ⟨h0, 5, none⟩ (.string ⟨#[]⟩)).cell? ⟨h0, 4, none⟩ = some (.slice none 0 0) := Hx.out.at_ (i := 4) rfl
        have q5 : (((((((w4).setCell ⟨h0, 0, none⟩ (.int .i64 0)).setCell ⟨h0, 1, none⟩ (.string ⟨#[]⟩)).setCell ⟨h0, 2, none⟩ (.int .i64 0)).setCell ⟨h0, 3, none⟩ (.int .i64 0)).setCell ⟨h0, 4, none⟩ (.slice none 0 0)).setCell ⟨h0, 5, none⟩ (.string ⟨#[]⟩)).cell? ⟨h0, 5, none⟩ = some (.string ⟨#[]⟩) := Hx.out.at_ (i := 5) rfl
        refine bodyPost_ret (v := .tuple #[.agg #[.int .i64 0, .string ⟨#[]⟩, .int .i64 0, .int .i64 0, .slice none 0 0, .string ⟨#[]⟩], .bool false]) (by simp [results, Tryz.results13, go_sem, q0, q1, q2, q3, q4, q5]) rfl ?_
        have HGG := Lib.hid (gb_new (gb_none HG.out Hg4.out) kk Hh0.out)
        exact ⟨.inr ⟨HNo.out, rfl⟩, HGG.out⟩
    · have HNo : Hid (∀ r, ¬ IsRec s.data.toList r) := isRec_nowire Hgx.out hno
      have Hgz := Lib.hid (gb_alloc Hg2.out (.cells #[.int .i64 0, .string ⟨#[]⟩, .int .i64 0, .int .i64 0, .slice none 0 0, .string ⟨#[]⟩] 26))
      clear hno
      have hr := HR0.out.kept (Hgz.out) (by simp)
      have f0 := hr.free 0
      have f1 := hr.free 1
      have f2 := hr.free 2
      have f3 := hr.free 3
      have f4 := hr.free 4
      have f5 := hr.free 5
      have u0 : (w2.alloc (.cells #[.int .i64 0, .string ⟨#[]⟩, .int .i64 0, .int .i64 0, .slice none 0 0, .string ⟨#[]⟩] 26)).cell? ⟨h0, 0, none⟩ = some (.int .i64 0) := hr.at_ (i := 0) rfl
      have u1 : (w2.alloc (.cells #[.int .i64 0, .string ⟨#[]⟩, .int .i64 0, .int .i64 0, .slice none 0 0, .string ⟨#[]⟩] 26)).cell? ⟨h0, 1, none⟩ = some (.string ⟨#[]⟩) := hr.at_ (i := 1) rfl
      have u2 : (w2.alloc (.cells #[.int .i64 0, .string ⟨#[]⟩, .int .i64 0, .int .i64 0, .slice none 0 0, .string ⟨#[]⟩] 26)).cell? ⟨h0, 2, none⟩ = some (.int .i64 0) := hr.at_ (i := 2) rfl
      have u3 : (w2.alloc (.cells #[.int .i64 0, .string ⟨#[]⟩, .int .i64 0, .int .i64 0, .slice none 0 0, .string ⟨#[]⟩] 26)).cell? ⟨h0, 3, none⟩ = some (.int .i64 0) := hr.at_ (i := 3) rfl
      have u4 : (w2.alloc (.cells #[.int .i64 0, .string ⟨#[]⟩, .int .i64 0, .int .i64 0, .slice none 0 0, .string ⟨#[]⟩] 26)).cell? ⟨h0, 4, none⟩ = some (.slice none 0 0) := hr.at_ (i := 4) rfl
      have u5 : (w2.alloc (.cells #[.int .i64 0, .string ⟨#[]⟩, .int .i64 0, .int .i64 0, .slice none 0 0, .string ⟨#[]⟩] 26)).cell? ⟨h0, 5, none⟩ = some (.string ⟨#[]⟩) := hr.at_ (i := 5) rfl
      have Hr := Lib.hid hr
      clear hr
      go_wp2_with fail
      have Hx := Lib.hid ((((((Hr.out.set_ 0 (.int .i64 0)).set_ 1 (.string ⟨#[]⟩)).set_ 2 (.int .i64 0)).set_ 3 (.int .i64 0)).set_ 4 (.slice none 0 0)).set_ 5 (.string ⟨#[]⟩))
      have kk : (w2.alloc (.cells #[.int .i64 0, .string ⟨#[]⟩, .int .i64 0, .int .i64 0, .slice none 0 0, .string ⟨#[]⟩] 26)).grownBy (((((((w2.alloc (.cells #[.int .i64 0, .string ⟨#[]⟩, .int .i64 0, .int .i64 0, .slice none 0 0, .string ⟨#[]⟩] 26)).setCell ⟨h0, 0, none⟩ (.int .i64 0)).setCell ⟨h0, 1, none⟩ (.string ⟨#[]⟩)).setCell ⟨h0, 2, none⟩ (.int .i64 0)).setCell ⟨h0, 3, none⟩ (.int .i64 0)).setCell ⟨h0, 4, none⟩ (.slice none 0 0)).setCell ⟨h0, 5, none⟩ (.string ⟨#[]⟩)) (some h0) := gb_then (gb_then (gb_then (gb_then (gb_then (gb_set1 _ _ _ _) (gb_set1 _ _ _ _)) (gb_set1 _ _ _ _)) (gb_set1 _ _ _ _)) (gb_set1 _ _ _ _)) (gb_set1 _ _ _ _)
      have q0 : (((((((w2.alloc (.cells #[.int .i64 0, .string ⟨#[]⟩, .int .i64 0, .int .i64 0, .slice none 0 0, .string ⟨#[]⟩] 26)).setCell ⟨h0, 0, none⟩ (.int .i64 0)).setCell ⟨h0, 1, none⟩ (.string ⟨#[]⟩)).setCell ⟨h0, 2, none⟩ (.int .i64 0)).setCell ⟨h0, 3, none⟩ (.int .i64 0)).setCell ⟨h0, 4, none⟩ (.slice none 0 0)).setCell ⟨h0, 5, none⟩ (.string ⟨#[]⟩)).cell? ⟨h0, 0, none⟩ = some (.int .i64 0) := Hx.out.at_ (i := 0) rfl
      have q1 : (((((((w2.alloc (.cells #[.int .i64 0, .string ⟨#[]⟩, .int .i64 0, .int .i64 0, .slice none 0 0, .string ⟨#[]⟩] 26)).setCell ⟨h0, 0, none⟩ (.int .i64 0)).setCell ⟨h0, 1, none⟩ (.string ⟨#[]⟩)).setCell ⟨h0, 2, none⟩ (.int .i64 0)).setCell ⟨h0, 3, none⟩ (.int .i64 0)).setCell ⟨h0, 4, none⟩ (.slice none 0 0)).setCell ⟨h0, 5, none⟩ (.string ⟨#[]⟩)).cell? ⟨h0, 1, none⟩ = some (.string ⟨#[]⟩) := Hx.out.at_ (i := 1) rfl
      have q2 : (((((((w2.alloc (.cells #[.int .i64 0, .string ⟨#[]⟩, .int .i64 0, .int .i64 0, .slice none 0 0, .string ⟨#[]⟩] 26)).setCell ⟨h0, 0, none⟩ (.int .i64 0)).setCell ⟨h0, 1, none⟩ (.string ⟨#[]⟩)).setCell ⟨h0, 2, none⟩ (.int .i64 0)).setCell ⟨h0, 3, none⟩ (.int .i64 0)).setCell ⟨h0, 4, none⟩ (.slice none 0 0)).setCell ⟨h0, 5, none⟩ (.string ⟨#[]⟩)).cell? ⟨h0, 2, none⟩ = some (.int .i64 0) := Hx.out.at_ (i := 2) rfl
      have q3 : (((((((w2.alloc (.cells #[.int .i64 0, .string ⟨#[]⟩, .int .i64 0, .int .i64 0, .slice none 0 0, .string ⟨#[]⟩] 26)).setCell ⟨h0, 0, none⟩ (.int .i64 0)).setCell ⟨h0, 1, none⟩ (.string ⟨#[]⟩)).setCell ⟨h0, 2, none⟩ (.int .i64 0)).setCell ⟨h0, 3, none⟩ (.int .i64 0)).setCell ⟨h0, 4, none⟩ (.slice none 0 0)).setCell ⟨h0, 5, none⟩ (.string ⟨#[]⟩)).cell? ⟨h0, 3, none⟩ = some (.int .i64 0) := Hx.out.at_ (i := 3) rfl
      have q4 : (((((((w2.alloc (.cells #[.int .i64 0, .string ⟨#[]⟩, .int .i64 0, .int .i64 0, .slice none 0 0, .string ⟨#[]⟩] 26)).setCell ⟨h0, 0, none⟩ (.int .i64 0)).setCell ⟨h0, 1, none⟩ (.string ⟨#[]⟩)).setCell ⟨h0, 2, none⟩ (.int .i64 0)).setCell ⟨h0, 3, none⟩ (.int .i64 0)).setCell ⟨h0, 4, none⟩ (.slice none 0 0)).setCell ⟨h0, 5, none⟩ (.string ⟨#[]⟩)).cell? ⟨h0, 4, none⟩ = some (.slice none 0 0) := Hx.out.at_ (i := 4) rfl
      have q5 : (((((((w2.alloc (.cells #[.int .i64 0, .string ⟨#[]⟩, .int .i64 0, .int .i64 0, .slice none 0 0, .string ⟨#[]⟩] 26)).setCell ⟨h0, 0, none⟩ (.int .i64 0)).setCell ⟨h0, 1, none⟩ (.string ⟨#[]⟩)).setCell ⟨h0, 2, none⟩ (.int .i64 0)).setCell ⟨h0, 3, none⟩ (.int .i64 0)).setCell ⟨h0, 4, none⟩ (.slice none 0 0)).setCell ⟨h0, 5, none⟩ (.string ⟨#[]⟩)).cell? ⟨h0, 5, none⟩ = some (.string ⟨#[]⟩) := Hx.out.at_ (i := 5) rfl
      refine bodyPost_ret (v := .tuple #[.agg #[.int .i64 0, .string ⟨#[]⟩, .int .i64 0, .int .i64 0, .slice none 0 0, .string ⟨#[]⟩], .bool false]) (by simp [results, Tryz.results13, go_sem, q0, q1, q2, q3, q4, q5]) rfl ?_
      have HGG := Lib.hid (gb_new (gb_none HG.out Hgz.out) kk Hh0.out)
      exact ⟨.inr ⟨HNo.out, rfl⟩, HGG.out⟩
end Go.Proofs.YtdlafgkiddhejaaGreatDoor.Mb
