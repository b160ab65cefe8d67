/- The document's Num, Text, List, Nums: wires made. -/
import Derived.Test.YthijiefopcnclaaGreatDoorVPA
import Derived.Test.YthijiefopcnclaaGreatDoorDtA
import Derived.Maps.AppendAt
import Derived.Deep.DeepCutAuto
namespace Go.Proofs.YthijiefopcnclaaGreatDoor.Dt
open Go Go.RowKit Go.Proofs.YthijiefopcnclaaGreatDoor.Mm Go.Proofs.YthijiefopcnclaaGreatDoor.Vw

set_option maxHeartbeats 4000000 in
set_option maxRecDepth 100000 in
theorem num1_any (n : Int) (w : World) : Calls Tryz.prog 31 #[.int .i64 n] w fun e w' => e = .returned (.agg #[.int .i64 1, .int .i64 n, .string ⟨#[]⟩, .slice none 0 0]) ∧ w.grownBy w' none := by
  go_enter Tryz.func31, Tryz.ntmps31
  go_wp2_with fail
  exact bodyPost_ret (results_cell_row rfl _ _ w.heap.size 60 _ (0, 0) _ rfl (Row.new w 60 #[.int .i64 1, .int .i64 n, .string ⟨#[]⟩, .slice none 0 0]) Tryz.underlying60 rfl (by kernel_rfl)) rfl ⟨rfl, gb_alloc (gb_refl _ _) _⟩
set_option maxHeartbeats 4000000 in
set_option maxRecDepth 100000 in
theorem text1_any (s : ByteArray) (w : World) : Calls Tryz.prog 32 #[.string s] w fun e w' => e = .returned (.agg #[.int .i64 2, .int .i64 0, .string s, .slice none 0 0]) ∧ w.grownBy w' none := by
  go_enter Tryz.func32, Tryz.ntmps32
  go_wp2_with fail
  exact bodyPost_ret (results_cell_row rfl _ _ w.heap.size 60 _ (0, 0) _ rfl (Row.new w 60 #[.int .i64 2, .int .i64 0, .string s, .slice none 0 0]) Tryz.underlying60 rfl (by kernel_rfl)) rfl ⟨rfl, gb_alloc (gb_refl _ _) _⟩
set_option maxHeartbeats 4000000 in
set_option maxRecDepth 100000 in
theorem list1_any (A : Option Addr) (n c : Nat) (w : World) : Calls Tryz.prog 30 #[.slice A n c] w fun e w' => e = .returned (.agg #[.int .i64 3, .int .i64 0, .string ⟨#[]⟩, .slice A n c]) ∧ w.grownBy w' none := by
  go_enter Tryz.func30, Tryz.ntmps30
  go_wp2_with fail
  exact bodyPost_ret (results_cell_row rfl _ _ w.heap.size 60 _ (0, 0) _ rfl (Row.new w 60 #[.int .i64 3, .int .i64 0, .string ⟨#[]⟩, .slice A n c]) Tryz.underlying60 rfl (by kernel_rfl)) rfl ⟨rfl, gb_alloc (gb_refl _ _) _⟩
/-- A number as a wire. -/
def nW (n : Int) : Wr := .mk 1 n ⟨#[]⟩ []
def tW (s : ByteArray) : Wr := .mk 2 0 s []
def lW (l : List Wr) : Wr := .mk 3 0 ⟨#[]⟩ l
def nps (l : List Int) : List (Wr × Value) := l.map fun z => (nW z, .slice none 0 0)
theorem nps_fst (l : List Int) : (nps l).map Prod.fst = l.map nW := by unfold nps; rw [List.map_map]; rfl
/-- A list of numbers, told. -/
def ListV (l : List Wr) (w : World) (e : Ending) (w' : World) : Prop := ∃ A c, e = .returned (.agg #[.int .i64 3, .int .i64 0, .string ⟨#[]⟩, .slice A l.length c]) ∧ HL w' w.heap.size (.slice A l.length c) l ∧ w.grownBy w' none
theorem own_HL {B : Nat} {v : Value} {ps : List (Wr × Value)} {w : World} (h : Own B v ps w) (hn : ps.length ≤ 1099511627776) (hp : ∀ p ∈ ps, HL w B p.2 p.1.l) : HL w B v (ps.map Prod.fst) := by
  have hcells := fun (g : Nat) (hg : v.ownBlock = some g) => World.ownsRow.cells h hg
  rcases h.2 with ⟨rfl, h0⟩ | ⟨g, cap, cur, rfl, hB, hg, _⟩
  · rw [List.length_eq_zero_iff.1 h0]; exact .nil _ _
  · have hc : ∀ j u, (flat ps)[j]? = some u → w.cell? ⟨g, 0 + j, none⟩ = some u := fun j u hu => by
      have := hcells g rfl j u hu
      have hadd : (⟨g, 0, none⟩ : Addr).add j = ⟨g, 0 + j, none⟩ := by unfold Addr.add; split <;> simp_all
      rwa [hadd] at this
    have hl : (ps.map Prod.fst).length = ps.length := List.length_map _
    have key : ∀ (i : Nat) (x : Wr), (ps.map Prod.fst)[i]? = some x → ∃ p : Wr × Value, ps[i]? = some p ∧ p.1 = x := fun i x hx => by
      rw [List.getElem?_map] at hx
      obtain ⟨p, h1, h2⟩ := Option.map_eq_some_iff.1 hx
      exact ⟨p, h1, h2⟩
    rw [← hl]
    refine .row g 0 cap _ (fun i => match ps[i]? with | some p => p.2 | none => .nilIface) hB (Array.getElem?_eq_some_iff.1 hg).1 (by rw [hl]; exact hn) ?_ ?_ ?_ ?_ ?_
    · intro i x hx; obtain ⟨p, h1, rfl⟩ := key i x hx; exact hc _ _ (flat_get ps i p h1).1
    · intro i x hx; obtain ⟨p, h1, rfl⟩ := key i x hx; exact hc _ _ (flat_get ps i p h1).2.1
    · intro i x hx; obtain ⟨p, h1, rfl⟩ := key i x hx; exact hc _ _ (flat_get ps i p h1).2.2.1
    · intro i x hx; obtain ⟨p, h1, rfl⟩ := key i x hx; simp only [h1]; exact hc _ _ (flat_get ps i p h1).2.2.2
    · intro i x hx; obtain ⟨p, h1, rfl⟩ := key i x hx; simp only [h1]; exact hp p (List.mem_of_getElem? h1)
set_option maxHeartbeats 8000000 in
set_option maxRecDepth 100000 in
theorem nums3_any (g : Nat) (a b c : Int) (w : World) (hr : Row w g 3 #[.int .i64 a, .int .i64 b, .int .i64 c]) :
    Calls Tryz.prog 29 #[.slice (some ⟨g, 0, none⟩) 3 3] w (ListV [nW a, nW b, nW c] w) := by
  obtain ⟨h0, hh0⟩ : ∃ h0, w.heap.size = h0 := ⟨_, rfl⟩
  obtain ⟨W0, hW0⟩ : ∃ W0, w.alloc (.cells #[.int .i64 0, .int .i64 0, .string ⟨#[]⟩, .slice none 0 0] 60) = W0 := ⟨_, rfl⟩
  have G0 : w.grownBy W0 none := by rw [← hW0]; exact gb_alloc (gb_refl _ _) _
  have HG := Lib.hid G0
  have HR0 : Hid (Row W0 h0 60 #[.int .i64 0, .int .i64 0, .string ⟨#[]⟩, .slice none 0 0]) := by rw [← hW0, ← hh0]; exact Row.new _ _ _
  have HR := Lib.hid (hr.kept G0 (by simp))
  have Hh0 : Hid (w.heap.size ≤ h0 ∧ W0.heap.size = h0 + 1) := ⟨by omega, by rw [← hW0, World.size_alloc, hh0]⟩
  obtain ⟨iW, hi, hz, hs4, hb56⟩ := wire_parts
  have Hi := Lib.hid hi
  have Hz := Lib.hid hz
  have Hs4 := Lib.hid hs4
  have Hb56 := Lib.hid hb56
  clear hi hz hs4 hb56 hr G0
  go_enter Tryz.func29, Tryz.ntmps29
  go_upto_region 1 with fail
  clear hW0 hh0
  go_wp2_with fail
  go_loopw [3, 4] (fun ov iv wr => ∃ k : Nat, k ≤ 3 ∧ iv = .int .i64 k ∧ Hid (Own (h0 + 1) ov (nps ([a, b, c].take k)) wr) ∧ W0.grownBy wr none) (fun _ iv _ => 3 - (intOf iv).toNat)
  case atStart => exact ⟨0, by omega, rfl, Own.nil _ _, gb_refl _ _⟩
  case round =>
    rename_i u3
    obtain ⟨k, hk, rfl, Ho, hg⟩ := hrel
    by_cases hlt : k < 3
    · have d1 : decide (k < 3) = true := decide_eq_true hlt
      have d2 : decide ((k : Int) < 3) = true := decide_eq_true (by omega)
      have b0 : (k : Int) < 3 := by omega
      obtain ⟨z, hz⟩ : ∃ z, [a, b, c][k]? = some z := ⟨_, List.getElem?_eq_getElem (by simpa using hlt)⟩
      have hcell : wr.cell? ⟨g, k, none⟩ = some (.int .i64 z) := by
        have h := HR.out.kept hg (by simp)
        match k, hlt, hz with
        | 0, _, hz => cases hz; exact h.at_ (i := 0) rfl
        | 1, _, hz => cases hz; exact h.at_ (i := 1) rfl
        | 2, _, hz => cases hz; exact h.at_ (i := 2) rfl
      have hnx : nps ([a, b, c].take (k + 1)) = nps ([a, b, c].take k) ++ [(nW z, .slice none 0 0)] := by
        rw [List.take_add_one, hz]; unfold nps; rw [List.map_append]; rfl
      have hlen : (nps ([a, b, c].take k)).length = k := by unfold nps; rw [List.length_map, List.length_take]; simp; omega
      have Hnx := Lib.hid hnx
      have Hlen := Lib.hid hlen
      have Hg := Lib.hid hg
      have Hlt := Lib.hid hlt
      have t1 : IntKind.i64.wrap ((k : Int) + 1) = ((k + 1 : Nat) : Int) := by rw [IntKind.wrap_i64]; omega
      have HNum : Hid (∀ W, Calls Tryz.prog 31 #[.int .i64 z] W fun e w' => e = .returned (.agg #[.int .i64 1, .int .i64 z, .string ⟨#[]⟩, .slice none 0 0]) ∧ W.grownBy w' none) := fun W => num1_any z W
      clear hz hnx hlen hg hlt hk
      go_wp2_with (first
        | (go_at_call 31; refine (HNum.out wr).mono ?_; rintro e w2 ⟨rfl, g2⟩; have Hg2 := Lib.hid (gb_none Hg.out g2); have Ho2 : Hid (Own (h0 + 1) u3 (nps ([a, b, c].take k)) (w2.alloc (.cells #[.int .i64 1, .int .i64 z, .string ⟨#[]⟩, .slice none 0 0] 60))) := (Ho.out.kept g2).kept (gb_alloc (gb_refl _ _) _); have hgs : h0 + 1 ≤ w2.heap.size := (by have h1 := Hg2.out.size; have h2 := Hh0.out.2; omega); clear g2)
        | (at_builtin; refine wpList_append_own_at _ rfl (.tmp 11) (.tmp 17) 58 rfl (h0 + 1) 60 iW (.agg #[.int .i64 0, .int .i64 0, .string ⟨#[]⟩, .slice none 0 0]) 4 56 Tryz.underlying58 Hi.out Hz.out Hs4.out Hb56.out rfl (by decide) _ (nps ([a, b, c].take k)).length _ rfl Ho2.out ⟨w2.heap.size, 0, none⟩ 1 1 [.int .i64 1, .int .i64 z, .string ⟨#[]⟩, .slice none 0 0] rfl rfl (cells4 _ _ _ _ _) (one4 _ _ _ _ _ _) (by have := Hlen.out; have := Hlt.out; simp only [maxLen]; omega) (by have := Hlen.out; have := Hlt.out; omega) (by rw [World.size_alloc]; omega) ?_; intro v' w' own' grow' _ hat; obtain ⟨vA, vn, vc, rfl⟩ := own_slice4 own'; have Hown : Hid (Own (h0 + 1) (.slice vA vn vc) (nps ([a, b, c].take (k + 1))) w') := (by show World.ownsRow _ _ _ _ _ _ _; rw [Hnx.out, flat_snoc, List.length_append]; exact own'); have Hg3 : Hid (W0.grownBy w' none) := gb_step (gb_alloc Hg2.out _) grow' (fun i e => .inr (by have h1 := (Ho2.out.lt i e).1; have h2 := Hh0.out.2; omega)); clear own' grow' hat))
      go_roundw
      case rel => exact ⟨k + 1, by have := Hlt.out; omega, rfl, Hown, Hg3.out⟩
      case measure => simp [intOf]; have := Hlt.out; omega
    · have hk3 : k = 3 := by omega
      subst hk3
      have d1 : decide (3 < 3) = false := by decide
      have d2 : decide ((3 : Int) < 3) = false := by decide
      obtain ⟨A, cc, rfl⟩ := Ho.out.slice
      have Hh : Hid (HL wr (h0 + 1) (.slice A 3 cc) [nW a, nW b, nW c]) := own_HL Ho.out (by unfold nps; simp) (fun p hp => by
        obtain ⟨z, _, rfl⟩ := List.mem_map.1 hp
        exact .nil _ _)
      have Hg := Lib.hid hg
      have Hrow := Lib.hid (HR0.out.kept hg (by simp))
      clear hk hlt hg Ho
      go_wp2_with (go_at_call 30; refine (list1_any A 3 cc wr).mono ?_; rintro e w2 ⟨rfl, g2⟩; have hr := Hrow.out.kept g2 (by simp); have q0 := hr.free 0; have q1 := hr.free 1; have q2 := hr.free 2; have q3 := hr.free 3; have e0 := hr.at_ (i := 0) rfl; have e1 := hr.at_ (i := 1) rfl; have e2 := hr.at_ (i := 2) rfl; have e3 := hr.at_ (i := 3) rfl; have Hr := Lib.hid hr; have Hg2 := Lib.hid g2; clear hr g2)
      have k0 := gb_set1 w2 h0 0 (.int .i64 3)
      have r0 := Hr.out.set_ 0 (.int .i64 3)
      have r3 := ((r0.set_ 1 (.int .i64 0)).set_ 2 (.string ⟨#[]⟩)).set_ 3 (.slice A 3 cc)
      have kk : w2.grownBy ((((w2.setCell ⟨h0, 0, none⟩ (.int .i64 3)).setCell ⟨h0, 1, none⟩ (.int .i64 0)).setCell ⟨h0, 2, none⟩ (.string ⟨#[]⟩)).setCell ⟨h0, 3, none⟩ (.slice A 3 cc)) (some h0) := gb_then (gb_then (gb_then k0 (gb_set1 _ _ _ _)) (gb_set1 _ _ _ _)) (gb_set1 _ _ _ _)
      exact bodyPost_ret (results_cell_row rfl _ _ h0 60 _ (0, 0) _ rfl r3 Tryz.underlying60 rfl (by kernel_rfl)) rfl ⟨A, cc, rfl, ((Hh.out.kept Hg2.out).grown kk (fun i e => by have := Option.some.inj e; omega)).low (by have := Hh0.out.1; omega), gb_new (gb_none (gb_none HG.out Hg.out) Hg2.out) kk Hh0.out.1⟩
end Go.Proofs.YthijiefopcnclaaGreatDoor.Dt
