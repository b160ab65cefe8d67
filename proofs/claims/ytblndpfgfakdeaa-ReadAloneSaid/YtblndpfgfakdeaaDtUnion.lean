/- The document's Union and Minus, given mix. -/
import Derived.Test.YtblndpfgfakdeaaDtMem
import Derived.Laws.AppendOwn
import Derived.Laws.AppendOwnNone
import Derived.Deep.DeepCutAuto
namespace Go.Proofs.Ytblndpfgfakdeaa.Dt
open Go Go.RowKit Go.Proofs.Ytblndpfgfakdeaa.Mm

/-- The cells of runs. -/
def rv (l : List Rn) : List Value := l.flatMap fun r => [.int .i64 r.d, .int .i64 r.f, .int .i64 r.t]
theorem rv_cons (r : Rn) (l : List Rn) : rv (r :: l) = [.int .i64 r.d, .int .i64 r.f, .int .i64 r.t] ++ rv l := rfl
theorem rv_append (a b : List Rn) : rv (a ++ b) = rv a ++ rv b := by unfold rv; rw [List.flatMap_append]
theorem rv_len (l : List Rn) : (rv l).length = l.length * 3 := by
  induction l with
  | nil => rfl
  | cons r l ih => rw [rv_cons, List.length_append, ih, List.length_cons]; simp; omega
theorem rv_one (l : List Rn) : ∀ u ∈ rv l, u.oneCell' = true := by
  intro u hu
  simp only [rv, List.mem_flatMap, List.mem_cons, List.not_mem_nil, or_false] at hu
  obtain ⟨r, _, rfl | rfl | rfl⟩ := hu <;> rfl
theorem rv_at (l : List Rn) (i : Nat) (x : Rn) (h : l[i]? = some x) : (rv l)[i * 3]? = some (.int .i64 x.d) ∧ (rv l)[i * 3 + 1]? = some (.int .i64 x.f) ∧ (rv l)[i * 3 + 2]? = some (.int .i64 x.t) := by
  induction l generalizing i with
  | nil => simp at h
  | cons r l ih =>
    cases i with
    | zero =>
      obtain rfl : r = x := by simpa using h
      exact ⟨rfl, rfl, rfl⟩
    | succ i =>
      obtain ⟨h0, h1, h2⟩ := ih i (by simpa using h)
      rw [rv_cons]
      refine ⟨?_, ?_, ?_⟩
      · rw [List.getElem?_append_right (by simp; omega), show (i + 1) * 3 - [Value.int .i64 r.d, .int .i64 r.f, .int .i64 r.t].length = i * 3 by simp; omega]; exact h0
      · rw [List.getElem?_append_right (by simp; omega), show (i + 1) * 3 + 1 - [Value.int .i64 r.d, .int .i64 r.f, .int .i64 r.t].length = i * 3 + 1 by simp; omega]; exact h1
      · rw [List.getElem?_append_right (by simp; omega), show (i + 1) * 3 + 2 - [Value.int .i64 r.d, .int .i64 r.f, .int .i64 r.t].length = i * 3 + 2 by simp; omega]; exact h2
theorem rl_news {w : World} {g o n : Nat} {l : List Rn} (h : RL w (some ⟨g, o, none⟩) n l) (h0 : 0 < n) : ∀ j u, (rv l)[j]? = some u → w.cell? ((⟨g, o, none⟩ : Addr).add j) = some u := fun j u hu => by
  obtain ⟨g', o', e, _, hc⟩ := h.2 h0
  cases e
  have hadd : (⟨g, o, none⟩ : Addr).add j = ⟨g, o + j, none⟩ := by unfold Addr.add; split <;> simp_all
  rw [hadd]
  have hj : j < l.length * 3 := by rw [← rv_len]; exact (List.getElem?_eq_some_iff.1 hu).1
  obtain ⟨x, hx⟩ : ∃ x, l[j / 3]? = some x := ⟨_, List.getElem?_eq_getElem (by omega)⟩
  obtain ⟨c0, c1, c2⟩ := hc (j / 3) x hx
  obtain ⟨r0, r1, r2⟩ := rv_at l (j / 3) x hx
  have hm : j % 3 = 0 ∨ j % 3 = 1 ∨ j % 3 = 2 := by omega
  rcases hm with hm | hm | hm
  · have e : j = j / 3 * 3 := by omega
    rw [← e] at r0
    rw [r0] at hu
    rw [e, ← hu]; exact c0
  · have e : j = j / 3 * 3 + 1 := by omega
    rw [← e] at r1
    rw [r1] at hu
    rw [e, ← hu]; exact c1
  · have e : j = j / 3 * 3 + 2 := by omega
    rw [← e] at r2
    rw [r2] at hu
    rw [e, ← hu]; exact c2
theorem own_rl {w : World} {B n : Nat} {t : TypeId} {v : Value} {l : List Rn} (h : w.ownsRow B t 3 v n (rv l)) (hn : l.length = n) : ∃ A c, v = .slice A n c ∧ RL w A n l ∧ n ≤ c := by
  have hcells := fun (g : Nat) (hg : v.ownBlock = some g) => World.ownsRow.cells h hg
  rcases h.2 with ⟨rfl, h0⟩ | ⟨g, cap, cur, rfl, hB, hg, hle, _⟩
  · exact ⟨none, 0, by rw [h0], ⟨hn, fun hp => absurd hp (by omega)⟩, by omega⟩
  · refine ⟨_, cap, rfl, ⟨hn, fun _ => ⟨g, 0, rfl, (Array.getElem?_eq_some_iff.1 hg).1, fun i x hx => ?_⟩⟩, hle⟩
    have hat : ∀ j u, (rv l)[j]? = some u → w.cell? ⟨g, 0 + j, none⟩ = some u := fun j u hu => by
      have := hcells g rfl j u hu
      have hadd : (⟨g, 0, none⟩ : Addr).add j = ⟨g, 0 + j, none⟩ := by unfold Addr.add; split <;> simp_all
      rwa [hadd] at this
    obtain ⟨r0, r1, r2⟩ := rv_at l i x hx
    exact ⟨hat _ _ r0, hat _ _ r1, hat _ _ r2⟩
theorem own_far3 {w : World} {B : Nat} {e : TypeId} {v : Value} {n : Nat} {xs : List Value} (h : w.ownsRow B e 3 v n xs) : ∀ i, v.ownBlock = some i → B ≤ i := fun i hi => by
  rcases h.2 with ⟨rfl, _⟩ | ⟨g, cap, cur, rfl, hB, _⟩
  · simp [Value.ownBlock] at hi
  · simp [Value.ownBlock] at hi; omega
theorem run_inf : (Try.prog.info? 56).map (fun i => (i.zero, i.size, i.bytes)) = some (some (.agg #[.int .i64 0, .int .i64 0, .int .i64 0]), 3, 24) := by kernel_rfl

/-- What a call that answers runs leaves: new memory, nil where there are none. -/
def Runs (l : List Rn) (w : World) (e : Ending) (w' : World) : Prop := ∃ A c, e = .returned (.slice A l.length c) ∧ RL w' A l.length l ∧ ((l.length = 0 → A = none ∧ c = 0) ∧ l.length ≤ c) ∧ w.grownBy w' none
/-- mix's contract. -/
def MixC : Prop := ∀ (dev : Nat) (A B : Option Addr) (n c m d : Nat) (a b : List Rn) (alone : Bool) (W : World), dev < 8 → RL W A n a → RL W B m b → (∀ r ∈ a, Ok r) → (∀ r ∈ b, Ok r) → n ≤ 100000 → m ≤ 100000 →
    (mixR (dev : Int) a b alone).length ≤ 400000 ∧ Calls Try.prog 59 #[.int .i64 (dev : Int), .slice A n c, .slice B m d, .bool alone] W (Runs (mixR (dev : Int) a b alone) W)
-- the walks
set_option maxHeartbeats 8000000 in
set_option maxRecDepth 100000 in
theorem refUnion_of (hmix : MixC) (A B : Option Addr) (n c m d : Nat) (a b : List Rn) (w : World) (ha : RL w A n a) (hb : RL w B m b) (oa : ∀ r ∈ a, Ok r) (ob : ∀ r ∈ b, Ok r) (hn : n ≤ 100000) (hm : m ≤ 100000) :
    Calls Try.prog 60 #[.slice A n c, .slice B m d] w (Runs (unionR a b) w) := by
  have Ha := Lib.hid ha
  have Hb := Lib.hid hb
  have Oa := Lib.hid oa
  have Ob := Lib.hid ob
  have Mx := Lib.hid hmix
  obtain ⟨i0, hi0, hz0, hz1, hz2⟩ := info_parts run_inf
  have Hi0 := Lib.hid hi0
  have Hz0 := Lib.hid hz0
  have Hz1 := Lib.hid hz1
  have Hz2 := Lib.hid hz2
  clear ha hb oa ob hmix hi0 hz0 hz1 hz2
  go_enter Try.func60, Try.ntmps60
  go_wp2_with fail
  go_loopw [6, 5] (fun i v wr => ∃ (k N : Nat), k ≤ 8 ∧ i = .int .i64 k ∧ Hid (N = (upR a b false k).length) ∧ wr.ownsRow w.heap.size 56 3 v N (rv (upR a b false k)) ∧ Hid (N = 0 → v = .slice none 0 0) ∧ N ≤ 400000 * k ∧ w.grownBy wr none) (fun i _ _ => 8 - (intOf i).toNat)
  case atStart => exact ⟨0, 0, by omega, rfl, rfl, World.ownsRow_nil _ _ _ _, fun _ => rfl, by omega, gb_refl _ _⟩
  case round =>
    obtain ⟨k, N, hk, rfl, HN, hown, HV, hN, hg⟩ := hrel
    by_cases hlt : k < 8
    · have d1 : decide ((k : Int) < 8) = true := decide_eq_true (by omega)
      obtain ⟨hlen, hcall⟩ := Mx.out k A B n c m d a b false wr hlt (Ha.out.keep hg) (Hb.out.keep hg) Oa.out Ob.out hn hm
      have Hcall := Lib.hid hcall
      have hup : upR a b false (k + 1) = upR a b false k ++ mixR (k : Int) a b false := rfl
      generalize mixR (k : Int) a b false = M at *
      have Hup := Lib.hid hup
      clear hcall hup
      go_wp2_with fail
      refine Hcall.out.mono ?_
      rintro e w1 ⟨A1, c1, rfl, hR, h0, g1⟩
      have own1 := World.ownsRow.kept hown g1 (by cases hv : Value.ownBlock _ with | none => exact .inl rfl | some q => exact .inr (by simp))
      have g2 := gb_none hg g1
      have Hnew : Hid (N + M.length = (upR a b false (k + 1)).length) := by show _ = _; rw [Hup.out, List.length_append, HN.out]
      by_cases hz : M.length = 0
      · obtain ⟨rfl, rfl⟩ := h0.1 hz
        rw [hz]
        have hM : M = [] := List.eq_nil_of_length_eq_zero hz
        have Hown : Hid (w1.ownsRow w.heap.size 56 3 _ N (rv (upR a b false k))) := own1
        have Hnew2 : Hid (N = (upR a b false (k + 1)).length) := by show _ = _; rw [← Hnew.out, hz]; rfl
        have Hsame : Hid (rv (upR a b false (k + 1)) = rv (upR a b false k)) := by show _ = _; rw [Hup.out, hM, List.append_nil]
        clear h0 hR own1 hown hM hz
        go_wp2_with (at_builtin; refine wpList_append_own_none rfl (.tmp 11) (.tmp 15) 23 rfl w.heap.size 56 i0 3 Try.underlying23 Hi0.out _ N _ rfl Hown.out rfl ?_)
        go_roundw
        case rel => exact ⟨k + 1, N, by omega, by go_num, Hnew2, by rw [Hsame.out]; exact Hown.out, HV, by omega, g2⟩
        case measure => simp [intOf]; omega
      · obtain ⟨g, o, rfl, hgl, _⟩ := hR.2 (by omega)
        have Hown : Hid (w1.ownsRow w.heap.size 56 3 _ N (rv (upR a b false k))) := own1
        have Hnews := Lib.hid (rl_news hR (by omega))
        have Hrl : Hid ((rv M).length = M.length * 3) := rv_len M
        have hsz := g2.size
        clear h0 hR own1 hown
        go_wp2_with (at_builtin; refine wpList_append_own _ rfl (.tmp 11) (.tmp 15) 23 rfl w.heap.size 56 i0 (.agg #[.int .i64 0, .int .i64 0, .int .i64 0]) 3 24 Try.underlying23 Hi0.out Hz0.out Hz1.out Hz2.out rfl (by decide) _ N _ rfl Hown.out ⟨g, o, none⟩ M.length c1 (rv M) rfl Hrl.out Hnews.out (rv_one _) (by simp only [maxLen]; omega) (by omega) hsz ?_; intro v2 w2 own2 grow2 hnil)
        have g3 : w.grownBy w2 none := gb_step g2 grow2 (fun i e => .inr (own_far3 Hown.out i e))
        rw [← rv_append, ← Hup.out] at own2
        go_roundw
        case rel => exact ⟨k + 1, N + M.length, by omega, by go_num, Hnew, own2, fun h => absurd h (by omega), by omega, g3⟩
        case measure => simp [intOf]; omega
    · have hk8 : k = 8 := by omega
      subst hk8
      have d1 : decide (((8 : Nat) : Int) < 8) = false := by decide
      obtain ⟨A3, c3, hv, hR, hc3⟩ := own_rl hown HN.out.symm
      subst hv
      have Hfin : Hid (A3 = A3 ∧ (N = 0 → A3 = none ∧ c3 = 0)) := ⟨rfl, fun h => by have := HV.out h; rw [h] at this; cases this; exact ⟨rfl, rfl⟩⟩
      go_wp2_with fail
      go_ret
      have e := HN.out
      refine ⟨A3, c3, ?_, ?_, ?_, hg⟩
      · show _ = Ending.returned (.slice A3 (upR a b false 8).length c3); rw [← e]; rfl
      · show RL _ _ (upR a b false 8).length (upR a b false 8); rw [← e]; exact hR
      · show ((upR a b false 8).length = 0 → _) ∧ (upR a b false 8).length ≤ c3; rw [← e]; exact ⟨Hfin.out.2, hc3⟩

set_option maxHeartbeats 8000000 in
set_option maxRecDepth 100000 in
theorem refMinus_of (hmix : MixC) (A B : Option Addr) (n c m d : Nat) (a b : List Rn) (w : World) (ha : RL w A n a) (hb : RL w B m b) (oa : ∀ r ∈ a, Ok r) (ob : ∀ r ∈ b, Ok r) (hn : n ≤ 100000) (hm : m ≤ 100000) :
    Calls Try.prog 26 #[.slice A n c, .slice B m d] w (Runs (minusR a b) w) := by
  have Ha := Lib.hid ha
  have Hb := Lib.hid hb
  have Oa := Lib.hid oa
  have Ob := Lib.hid ob
  have Mx := Lib.hid hmix
  obtain ⟨i0, hi0, hz0, hz1, hz2⟩ := info_parts run_inf
  have Hi0 := Lib.hid hi0
  have Hz0 := Lib.hid hz0
  have Hz1 := Lib.hid hz1
  have Hz2 := Lib.hid hz2
  clear ha hb oa ob hmix hi0 hz0 hz1 hz2
  go_enter Try.func26, Try.ntmps26
  go_wp2_with fail
  go_loopw [6, 5] (fun i v wr => ∃ (k N : Nat), k ≤ 8 ∧ i = .int .i64 k ∧ Hid (N = (upR a b true k).length) ∧ wr.ownsRow w.heap.size 56 3 v N (rv (upR a b true k)) ∧ Hid (N = 0 → v = .slice none 0 0) ∧ N ≤ 400000 * k ∧ w.grownBy wr none) (fun i _ _ => 8 - (intOf i).toNat)
  case atStart => exact ⟨0, 0, by omega, rfl, rfl, World.ownsRow_nil _ _ _ _, fun _ => rfl, by omega, gb_refl _ _⟩
  case round =>
    obtain ⟨k, N, hk, rfl, HN, hown, HV, hN, hg⟩ := hrel
    by_cases hlt : k < 8
    · have d1 : decide ((k : Int) < 8) = true := decide_eq_true (by omega)
      obtain ⟨hlen, hcall⟩ := Mx.out k A B n c m d a b true wr hlt (Ha.out.keep hg) (Hb.out.keep hg) Oa.out Ob.out hn hm
      have Hcall := Lib.hid hcall
      have hup : upR a b true (k + 1) = upR a b true k ++ mixR (k : Int) a b true := rfl
      generalize mixR (k : Int) a b true = M at *
      have Hup := Lib.hid hup
      clear hcall hup
      go_wp2_with fail
      refine Hcall.out.mono ?_
      rintro e w1 ⟨A1, c1, rfl, hR, h0, g1⟩
      have own1 := World.ownsRow.kept hown g1 (by cases hv : Value.ownBlock _ with | none => exact .inl rfl | some q => exact .inr (by simp))
      have g2 := gb_none hg g1
      have Hnew : Hid (N + M.length = (upR a b true (k + 1)).length) := by show _ = _; rw [Hup.out, List.length_append, HN.out]
      by_cases hz : M.length = 0
      · obtain ⟨rfl, rfl⟩ := h0.1 hz
        rw [hz]
        have hM : M = [] := List.eq_nil_of_length_eq_zero hz
        have Hown : Hid (w1.ownsRow w.heap.size 56 3 _ N (rv (upR a b true k))) := own1
        have Hnew2 : Hid (N = (upR a b true (k + 1)).length) := by show _ = _; rw [← Hnew.out, hz]; rfl
        have Hsame : Hid (rv (upR a b true (k + 1)) = rv (upR a b true k)) := by show _ = _; rw [Hup.out, hM, List.append_nil]
        clear h0 hR own1 hown hM hz
        go_wp2_with (at_builtin; refine wpList_append_own_none rfl (.tmp 11) (.tmp 15) 23 rfl w.heap.size 56 i0 3 Try.underlying23 Hi0.out _ N _ rfl Hown.out rfl ?_)
        go_roundw
        case rel => exact ⟨k + 1, N, by omega, by go_num, Hnew2, by rw [Hsame.out]; exact Hown.out, HV, by omega, g2⟩
        case measure => simp [intOf]; omega
      · obtain ⟨g, o, rfl, hgl, _⟩ := hR.2 (by omega)
        have Hown : Hid (w1.ownsRow w.heap.size 56 3 _ N (rv (upR a b true k))) := own1
        have Hnews := Lib.hid (rl_news hR (by omega))
        have Hrl : Hid ((rv M).length = M.length * 3) := rv_len M
        have hsz := g2.size
        clear h0 hR own1 hown
        go_wp2_with (at_builtin; refine wpList_append_own _ rfl (.tmp 11) (.tmp 15) 23 rfl w.heap.size 56 i0 (.agg #[.int .i64 0, .int .i64 0, .int .i64 0]) 3 24 Try.underlying23 Hi0.out Hz0.out Hz1.out Hz2.out rfl (by decide) _ N _ rfl Hown.out ⟨g, o, none⟩ M.length c1 (rv M) rfl Hrl.out Hnews.out (rv_one _) (by simp only [maxLen]; omega) (by omega) hsz ?_; intro v2 w2 own2 grow2 hnil)
        have g3 : w.grownBy w2 none := gb_step g2 grow2 (fun i e => .inr (own_far3 Hown.out i e))
        rw [← rv_append, ← Hup.out] at own2
        go_roundw
        case rel => exact ⟨k + 1, N + M.length, by omega, by go_num, Hnew, own2, fun h => absurd h (by omega), by omega, g3⟩
        case measure => simp [intOf]; omega
    · have hk8 : k = 8 := by omega
      subst hk8
      have d1 : decide (((8 : Nat) : Int) < 8) = false := by decide
      obtain ⟨A3, c3, hv, hR, hc3⟩ := own_rl hown HN.out.symm
      subst hv
      have Hfin : Hid (A3 = A3 ∧ (N = 0 → A3 = none ∧ c3 = 0)) := ⟨rfl, fun h => by have := HV.out h; rw [h] at this; cases this; exact ⟨rfl, rfl⟩⟩
      go_wp2_with fail
      go_ret
      have e := HN.out
      refine ⟨A3, c3, ?_, ?_, ?_, hg⟩
      · show _ = Ending.returned (.slice A3 (upR a b true 8).length c3); rw [← e]; rfl
      · show RL _ _ (upR a b true 8).length (upR a b true 8); rw [← e]; exact hR
      · show ((upR a b true 8).length = 0 → _) ∧ (upR a b true 8).length ≤ c3; rw [← e]; exact ⟨Hfin.out.2, hc3⟩

end Go.Proofs.Ytblndpfgfakdeaa.Dt
