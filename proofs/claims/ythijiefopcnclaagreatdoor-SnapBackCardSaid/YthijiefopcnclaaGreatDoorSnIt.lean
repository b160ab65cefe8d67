/- Package snap: items. Written by gen_snget.py. -/
import Derived.Test.YthijiefopcnclaaGreatDoorSnG
import Derived.Test.YthijiefopcnclaaGreatDoorSpErr
import Derived.Test.YthijiefopcnclaaGreatDoorFtMay
import Derived.Test.YthijiefopcnclaaGreatDoorTdA
import Derived.Deep.DeepCutAuto
set_option linter.unusedVariables false
namespace Go.Proofs.YthijiefopcnclaaGreatDoor.Dt
open Go Go.RowKit Go.Proofs.YthijiefopcnclaaGreatDoor.Mm Go.Proofs.YthijiefopcnclaaGreatDoor.Td Go.Proofs.YthijiefopcnclaaGreatDoor.Vw

/-- A list of just these kinds. -/
def ItemsOk (x : Wr) (ks : List Int) : Prop := x.k = 3 ∧ x.l.map Wr.k = ks
/-- What items says of a wire. -/
def ItemsIs (x : Wr) (A : Option Addr) (c : Nat) (ks : List Int) (w : World) (e : Ending) (w' : World) : Prop := (ItemsOk x ks ∧ e = .returned (.tuple #[.slice A x.l.length c, .nilIface]) ∨ ¬ ItemsOk x ks ∧ ∃ v d f, e = .returned (.tuple #[.slice none 0 0, v]) ∧ Sp.ErrV d v f ∧ f ≠ 0 ∧ d ≤ 2) ∧ w.grownBy w' none
set_option maxHeartbeats 8000000 in
set_option maxRecDepth 100000 in
theorem items_any (x : Wr) (A : Option Addr) (c g m : Nat) (ks : List Int) (w : World) (h : HL w 0 (.slice A x.l.length c) x.l) (hk : ∀ i k, ks[i]? = some k → w.cell? ⟨g, i, none⟩ = some (.int .i64 k)) (hg : g < w.heap.size) (hm : ks.length = m) (h6 : m ≤ 6) :
    Calls Tryz.prog 43 #[.agg #[.int .i64 x.k, .int .i64 x.n, .string x.s, .slice A x.l.length c], .slice (some ⟨g, 0, none⟩) m m] w (ItemsIs x A c ks w) := by
  obtain ⟨k, n, s, l⟩ := x
  simp only [Wr.k_mk, Wr.n_mk, Wr.s_mk, Wr.l_mk] at h ⊢
  obtain ⟨b0, hb0⟩ : ∃ b0, w.heap.size = b0 := ⟨_, rfl⟩
  obtain ⟨W0, hW0⟩ : ∃ W0, w.alloc (.cells #[.int .i64 k, .int .i64 n, .string s, .slice A l.length c] 60) = W0 := ⟨_, rfl⟩
  have G0 : w.grownBy W0 none := by rw [← hW0]; exact gb_alloc (gb_refl _ _) _
  have HR0 : Hid (Row W0 b0 60 #[.int .i64 k, .int .i64 n, .string s, .slice A l.length c]) := by rw [← hW0, ← hb0]; exact Row.new _ _ _
  have y0 : W0.cell? ⟨b0, 0, none⟩ = some (.int .i64 k) := HR0.out.at_ (i := 0) rfl
  have y3 : W0.cell? ⟨b0, 3, none⟩ = some (.slice A l.length c) := HR0.out.at_ (i := 3) rfl
  have HG := Lib.hid G0
  have HH := Lib.hid (h.kept G0)
  have HK : Hid (∀ W, W0.grownBy W none → ∀ i k, ks[i]? = some k → W.cell? ⟨g, i, none⟩ = some (.int .i64 k)) := fun W hW i k hi => (World.cell?_of_block (a := ⟨g, i, none⟩) ((gb_none G0 hW).block g hg (by simp))).trans (hk i k hi)
  clear G0 h hk hg
  by_cases h3 : k = 3
  · subst h3
    by_cases hl : l.length = m
    · have Hl := Lib.hid hl
      rw [hl] at HH y3 hW0 HR0 ⊢
      have e1 : ((m : Int) == (m : Int)) = true := by simp
      have e2 : ((m : Int) != (m : Int)) = false := by simp
      clear hl
      go_enter Tryz.func43, Tryz.ntmps43
      go_upto_region 1 with fail
      clear hW0 hb0
      go_wp2_with fail
      clear e1 e2
      go_loopw [32] (fun iv wr => ∃ j : Nat, j ≤ m ∧ iv = .int .i64 j ∧ Hid (∀ q, q < j → (l[q]?).map Wr.k = ks[q]?) ∧ W0.grownBy wr none) (fun iv _ => m - (intOf iv).toNat)
      case atStart => exact ⟨0, Nat.zero_le _, rfl, fun q hq => absurd hq (Nat.not_lt_zero _), gb_refl _ _⟩
      case round =>
        obtain ⟨j, hj, rfl, HJ, hg⟩ := hrel
        have z3 : wr.cell? ⟨b0, 3, none⟩ = some (.slice A m c) := (HR0.out.kept hg (by simp)).at_ (i := 3) rfl
        clear y0 y3
        by_cases hlt : j < m
        · have d1 : decide (j < m) = true := decide_eq_true hlt
          have d2 : decide ((j : Int) < (m : Int)) = true := decide_eq_true (by omega)
          obtain ⟨z, hz⟩ : ∃ z, l[j]? = some z := ⟨_, List.getElem?_eq_getElem (by rw [Hl.out]; exact hlt)⟩
          obtain ⟨kk, hkk⟩ : ∃ kk, ks[j]? = some kk := ⟨_, List.getElem?_eq_getElem (by rw [hm]; exact hlt)⟩
          have c9 := HK.out wr hg j kk hkk
          obtain ⟨g2, o, A2, c2, rfl, _, hgs, c0, _, _, _, _⟩ := (HH.out.kept hg).item hz
          have Hz := Lib.hid hz
          have Hkk := Lib.hid hkk
          have Hg := Lib.hid hg
          have Hlt := Lib.hid hlt
          have t1 : IntKind.i64.wrap ((j : Int) + 1) = ((j + 1 : Nat) : Int) := by rw [IntKind.wrap_i64]; omega
          clear hz hkk hg hlt hj hgs
          by_cases he : z.k = kk
          · have e1 : (z.k == kk) = true := by simp [he]
            have e2 : (z.k != kk) = false := by simp [he]
            have HN : Hid (∀ q, q < j + 1 → (l[q]?).map Wr.k = ks[q]?) := fun q hq => by
              rcases Nat.lt_succ_iff_lt_or_eq.1 hq with hq | rfl
              · exact HJ.out q hq
              · rw [Hz.out, Hkk.out]; show some z.k = some kk; rw [he]
            clear he
            generalize z.k = zk at *
            go_wp2_with fail
            go_roundw
            case rel => exact ⟨j + 1, by have := Hlt.out; omega, rfl, HN, Hg.out⟩
            case measure => simp [intOf]; have := Hlt.out; omega
          · have e1 : (z.k == kk) = false := by simpa using he
            have e2 : (z.k != kk) = true := by simpa using he
            have HN : Hid (¬ ItemsOk (.mk 3 n s l) ks) := fun hh => he (by
              have h9 : (l.map Wr.k)[j]? = some z.k := by rw [List.getElem?_map, Hz.out]; rfl
              rw [show l.map Wr.k = ks from hh.2, Hkk.out] at h9
              exact (Option.some.inj h9).symm)
            clear he
            generalize z.k = zk at *
            go_upto_region 9 with fail
            clear e1 e2 t1 c9
            go_quiet (fail)
            go_wp2_with fail
            refine bodyPost_ret (results_tmp2 rfl _ _ _) rfl ?_
            exact ⟨.inr ⟨HN.out, _, 2, 2, rfl, .item 1 _ _ _ 2 (.item 0 _ _ _ 2 (.flt 2)), by decide, by decide⟩, gb_drewN (gb_none HG.out Hg.out) _⟩
        · have hjm : j = m := by omega
          subst hjm
          have d1 : decide (j < j) = false := by simp
          have d2 : decide ((j : Int) < (j : Int)) = false := by simp
          have HN : Hid (ItemsOk (.mk 3 n s l) ks) := ⟨rfl, by
            show l.map Wr.k = ks
            refine List.ext_getElem? fun q => ?_
            by_cases hq : q < j
            · rw [List.getElem?_map]; exact HJ.out q hq
            · rw [List.getElem?_eq_none (by rw [List.length_map, Hl.out]; omega), List.getElem?_eq_none (by omega)]⟩
          have Hg := Lib.hid hg
          clear hg hlt hj
          go_wp2_with fail
          refine bodyPost_ret (results_tmp2 rfl _ _ _) rfl ?_
          exact ⟨.inl ⟨HN.out, by show Ending.returned (.tuple #[.slice A j c, .nilIface]) = Ending.returned (.tuple #[.slice A l.length c, .nilIface]); rw [Hl.out]⟩, gb_none HG.out Hg.out⟩
    · have e1 : ((l.length : Int) == (m : Int)) = false := by simp only [beq_eq_false_iff_ne, ne_eq]; omega
      have e2 : ((l.length : Int) != (m : Int)) = true := by simp only [bne, e1]; rfl
      have HN : Hid (¬ ItemsOk (.mk 3 n s l) ks) := fun hh => hl (by rw [← hm, ← show l.map Wr.k = ks from hh.2, List.length_map])
      clear hl hm
      generalize l.length = ln at *
      go_enter Tryz.func43, Tryz.ntmps43
      go_upto_region 4 with fail
      clear hW0 hb0
      go_quiet (fail)
      go_wp2_with fail
      refine bodyPost_ret (results_tmp2 rfl _ _ _) rfl ?_
      exact ⟨.inr ⟨HN.out, _, 1, 3, rfl, .item 0 _ _ _ 3 (.flt 3), by decide, by decide⟩, gb_drewN HG.out _⟩
  · have e1 : (k == 3) = false := by simpa using h3
    have e2 : (k != 3) = true := by simpa using h3
    have HN : Hid (¬ ItemsOk (.mk k n s l) ks) := fun hh => h3 hh.1
    clear h3 hm
    generalize l.length = ln at *
    go_enter Tryz.func43, Tryz.ntmps43
    go_upto_region 2 with fail
    clear hW0 hb0
    go_quiet (fail)
    go_wp2_with fail
    refine bodyPost_ret (results_tmp2 rfl _ _ _) rfl ?_
    exact ⟨.inr ⟨HN.out, _, 1, 2, rfl, .item 0 _ _ _ 2 (.flt 2), by decide, by decide⟩, gb_drewN HG.out _⟩
end Go.Proofs.YthijiefopcnclaaGreatDoor.Dt
