/- Great: more than the laws go through. -/
import Derived.Test.YtblndpfgfakdeaaFtLaw
import Derived.Test.YtblndpfgfakdeaaTold
namespace Go.Proofs.Ytblndpfgfakdeaa.Dt
open Go Go.RowKit Go.Proofs.Ytblndpfgfakdeaa.Mm Go.Proofs.Ytblndpfgfakdeaa.Td

def factsS (L : Nat) (l : List Fc) : Td.Spec := fun W v => ∃ A c, v = .slice A L c ∧ FL W A L l ∧ L ≤ c
theorem factsS_stays {L : Nat} {l : List Fc} : Stays (fun a b => a.grownBy b none) (factsS L l) := fun _ _ _ h ⟨A, c, e, hr, hc⟩ => ⟨A, c, e, hr.keep h, hc⟩
theorem BoolIs.is {p : Prop} {b : Bool} {w w' : World} {e : Ending} (h : BoolIs p w e w') (hb : b = true ↔ p) : e = .returned (.bool b) ∧ w.grownBy w' none := by
  obtain ⟨⟨q, rfl, hq⟩, hg⟩ := h
  have : q = b := by rw [Bool.eq_iff_iff, hq, hb]
  rw [this]; exact ⟨rfl, hg⟩
theorem asB (p : Prop) : ∃ b : Bool, b = true ↔ p := by
  by_cases h : p
  · exact ⟨true, by simp [h]⟩
  · exact ⟨false, by simp [h]⟩
theorem rows5 (w : World) (X1 X2 X3 X4 X5 : Array Value) (t1 t2 t3 t4 t5 : TypeId) : ∃ W, (((((w.alloc (.cells X1 t1)).alloc (.cells X2 t2)).alloc (.cells X3 t3)).alloc (.cells X4 t4)).alloc (.cells X5 t5)) = W ∧ w.grownBy W none ∧ Row W w.heap.size t1 X1 ∧ Row W (w.heap.size + 1) t2 X2 ∧ Row W (w.heap.size + 1 + 1) t3 X3 ∧ Row W (w.heap.size + 1 + 1 + 1) t4 X4 ∧ Row W (w.heap.size + 1 + 1 + 1 + 1) t5 X5 := by
  have h2 := Row.new (w.alloc (.cells X1 t1)) t2 X2
  have h3 := Row.new ((w.alloc (.cells X1 t1)).alloc (.cells X2 t2)) t3 X3
  have h4 := Row.new (((w.alloc (.cells X1 t1)).alloc (.cells X2 t2)).alloc (.cells X3 t3)) t4 X4
  have h5 := Row.new ((((w.alloc (.cells X1 t1)).alloc (.cells X2 t2)).alloc (.cells X3 t3)).alloc (.cells X4 t4)) t5 X5
  simp only [World.size_alloc] at h2 h3 h4 h5
  exact ⟨_, rfl, gb_alloc (gb_alloc (gb_alloc (gb_alloc (gb_alloc (gb_refl _ _) _) _) _) _) _, ((((Row.new w t1 X1).alloc _).alloc _).alloc _).alloc _, ((h2.alloc _).alloc _).alloc _, (h3.alloc _).alloc _, h4.alloc _, h5⟩
def Big (x : Fc) : Prop := 100 < x.key.size ∨ 400 < x.item.size
def GreatP (s : St) : Prop := (∃ x ∈ s.facts.take 100, Big x) ∨ 60 < s.seen.length ∨ 80 < s.facts.length
set_option maxHeartbeats 8000000 in
set_option maxRecDepth 100000 in
theorem great_any (A B : Option Addr) (p c n d : Nat) (s : St) (w : World) (hs : SL w A p B n s) :
    Calls Try.prog 37 #[.agg #[.slice A p c, .slice B n d]] w (BoolIs (GreatP s) w) := by
  obtain ⟨rs, l⟩ := s
  obtain ⟨W0, hW0⟩ : ∃ W0, w.alloc (.cells #[.slice A p c, .slice B n d] 26) = W0 := ⟨_, rfl⟩
  have G0 : w.grownBy W0 none := by rw [← hW0]; exact gb_alloc (gb_refl _ _) _
  have hr0 : Row W0 w.heap.size 26 #[.slice A p c, .slice B n d] := by rw [← hW0]; exact Row.new _ _ _
  have HC : Hid (∀ W, W0.grownBy W none → W.cell? ⟨w.heap.size, 0, none⟩ = some (.slice A p c) ∧ W.cell? ⟨w.heap.size, 1, none⟩ = some (.slice B n d)) :=
    fun W hW => ⟨(hr0.kept hW (by simp)).at_ (i := 0) rfl, (hr0.kept hW (by simp)).at_ (i := 1) rfl⟩
  have Hs := Lib.hid (hs.keep G0)
  have HG := Lib.hid G0
  obtain ⟨z0, z1⟩ := HC.out W0 (gb_refl _ _)
  clear hr0 hs G0
  go_enter Try.func37, Try.ntmps37
  go_upto_region 1 with fail
  clear hW0 z0 z1
  go_wp2_with fail
  go_loopw [3] (fun i wr => ∃ k : Nat, k ≤ n ∧ k ≤ 100 ∧ i = .int .i64 k ∧ Hid (∀ x ∈ l.take k, ¬ Big x) ∧ W0.grownBy wr none) (fun i _ => 100 - (intOf i).toNat)
  case atStart => exact ⟨0, Nat.zero_le _, Nat.zero_le _, rfl, (fun x hx => by simp at hx), gb_refl _ _⟩
  case round =>
    obtain ⟨k, hk, hk100, rfl, HX, hg⟩ := hrel
    obtain ⟨y0, y1⟩ := HC.out wr hg
    by_cases hlt : k < n
    · have d1 : decide (k < n) = true := decide_eq_true hlt
      have d2 : decide ((k : Int) < (n : Int)) = true := decide_eq_true (by omega)
      have bk : (k : Int) < (n : Int) := by omega
      by_cases hl1 : k < 100
      · have d3 : decide (k < 100) = true := decide_eq_true hl1
        have d4 : decide ((k : Int) < 100) = true := decide_eq_true (by omega)
        obtain ⟨g, o, rfl, hgl, hcc⟩ := (Hs.out.2.keep hg).2 (by omega)
        obtain ⟨x, hx⟩ : ∃ x, l[k]? = some x := ⟨_, List.getElem?_eq_getElem (by have := Hs.out.2.1; dsimp only at this; rw [this]; exact hlt)⟩
        obtain ⟨h0, h1, h2, h3, h4, h5⟩ := hcc k x hx
        have Hmem : Hid (x ∈ l.take 100) := by
          show x ∈ _
          exact List.mem_of_getElem? (i := k) (by rw [List.getElem?_take, if_pos hl1]; exact hx)
        have Hx := Lib.hid hx
        clear hcc hx
        by_cases b1 : 100 < x.key.size
        · have e1 : decide (100 < x.key.size) = true := decide_eq_true b1
          have e2 : decide ((100 : Int) < (x.key.size : Int)) = true := decide_eq_true (by omega)
          have HE : Hid (GreatP ⟨rs, l⟩) := .inl ⟨x, Hmem.out, .inl b1⟩
          go_wp2_with fail
          go_ret
          exact ⟨⟨true, rfl, by simp [HE.out]⟩, gb_none HG.out hg⟩
        · have e1 : decide (100 < x.key.size) = false := decide_eq_false b1
          have e2 : decide ((100 : Int) < (x.key.size : Int)) = false := decide_eq_false (by omega)
          by_cases b2 : 400 < x.item.size
          · have e3 : decide (400 < x.item.size) = true := decide_eq_true b2
            have e4 : decide ((400 : Int) < (x.item.size : Int)) = true := decide_eq_true (by omega)
            have HE : Hid (GreatP ⟨rs, l⟩) := .inl ⟨x, Hmem.out, .inr b2⟩
            go_wp2_with fail
            go_ret
            exact ⟨⟨true, rfl, by simp [HE.out]⟩, gb_none HG.out hg⟩
          · have e3 : decide (400 < x.item.size) = false := decide_eq_false b2
            have e4 : decide ((400 : Int) < (x.item.size : Int)) = false := decide_eq_false (by omega)
            have Hnext : Hid (∀ x ∈ l.take (k + 1), ¬ Big x) := fun z hz => by
              rw [ftake_more Hx.out] at hz
              rcases List.mem_append.1 hz with h | h
              · exact HX.out z h
              · rw [List.mem_singleton.1 h]; exact fun hb => hb.elim b1 b2
            clear b1 b2
            go_wp2_with fail
            go_roundw
            case rel => exact ⟨k + 1, by omega, by omega, by go_num, Hnext, hg⟩
            case measure => simp [intOf]; omega
      · have hk1 : k = 100 := by omega
        subst hk1
        have d3 : decide ((100 : Nat) < 100) = false := by decide
        have HN : Hid (∀ x ∈ l.take 100, ¬ Big x) := HX.out
        by_cases s1 : 60 < p
        · have e1 : decide (60 < p) = true := decide_eq_true s1
          have e2 : decide ((60 : Int) < (p : Int)) = true := decide_eq_true (by omega)
          have HE : Hid (GreatP ⟨rs, l⟩) := .inr (.inl (by show 60 < rs.length; rw [Hs.out.1.1]; exact s1))
          go_wp2_with fail
          go_ret
          exact ⟨⟨true, rfl, by simp [HE.out]⟩, gb_none HG.out hg⟩
        · have e1 : decide (60 < p) = false := decide_eq_false s1
          have e2 : decide ((60 : Int) < (p : Int)) = false := decide_eq_false (by omega)
          by_cases s2 : 80 < n
          · have e3 : decide (80 < n) = true := decide_eq_true s2
            have e4 : decide ((80 : Int) < (n : Int)) = true := decide_eq_true (by omega)
            have HE : Hid (GreatP ⟨rs, l⟩) := .inr (.inr (by show 80 < l.length; rw [Hs.out.2.1]; exact s2))
            go_wp2_with fail
            go_ret
            exact ⟨⟨true, rfl, by simp [HE.out]⟩, gb_none HG.out hg⟩
          · exfalso; omega
    · have hkn : k = n := by omega
      subst hkn
      have d1 : decide (k < k) = false := by simp
      have d2 : decide ((k : Int) < (k : Int)) = false := by simp
      have HN : Hid (∀ x ∈ l.take 100, ¬ Big x) := fun x hx => HX.out x (by rw [List.take_of_length_le (by have := Hs.out.2.1; dsimp only at this; rw [this]; exact Nat.le_refl _)]; exact List.mem_of_mem_take hx)
      by_cases s1 : 60 < p
      · have e1 : decide (60 < p) = true := decide_eq_true s1
        have e2 : decide ((60 : Int) < (p : Int)) = true := decide_eq_true (by omega)
        have HE : Hid (GreatP ⟨rs, l⟩) := .inr (.inl (by show 60 < rs.length; rw [Hs.out.1.1]; exact s1))
        go_wp2_with fail
        go_ret
        exact ⟨⟨true, rfl, by simp [HE.out]⟩, gb_none HG.out hg⟩
      · have e1 : decide (60 < p) = false := decide_eq_false s1
        have e2 : decide ((60 : Int) < (p : Int)) = false := decide_eq_false (by omega)
        by_cases s2 : 80 < k
        · have e3 : decide (80 < k) = true := decide_eq_true s2
          have e4 : decide ((80 : Int) < (k : Int)) = true := decide_eq_true (by omega)
          have HE : Hid (GreatP ⟨rs, l⟩) := .inr (.inr (by show 80 < l.length; rw [Hs.out.2.1]; exact s2))
          go_wp2_with fail
          go_ret
          exact ⟨⟨true, rfl, by simp [HE.out]⟩, gb_none HG.out hg⟩
        · have e3 : decide (80 < k) = false := decide_eq_false s2
          have e4 : decide ((80 : Int) < (k : Int)) = false := decide_eq_false (by omega)
          have HE : Hid (¬ GreatP ⟨rs, l⟩) := fun h => h.elim (fun ⟨x, hx, hb⟩ => HN.out x hx hb) fun h => h.elim (fun h => s1 (by rw [← Hs.out.1.1]; exact h)) fun h => s2 (by rw [← Hs.out.2.1]; exact h)
          go_wp2_with fail
          go_ret
          exact ⟨⟨false, rfl, by simp [HE.out]⟩, gb_none HG.out hg⟩
end Go.Proofs.Ytblndpfgfakdeaa.Dt
