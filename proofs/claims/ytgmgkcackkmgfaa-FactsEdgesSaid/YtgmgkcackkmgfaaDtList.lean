/- The laws' own List and Make: dots by numbers. -/
import Derived.Test.YtgmgkcackkmgfaaDtMixC
import Derived.Test.YtgmgkcackkmgfaaDtOf
namespace Go.Proofs.Ytgmgkcackkmgfaa.Dt
open Go Go.RowKit Go.Proofs.Ytgmgkcackkmgfaa.Mm

/-- The slice at A, of n bytes, reads as these. -/
def NL (w : World) (A : Option Addr) (n : Nat) (bs : List Int) : Prop :=
  bs.length = n ∧ (0 < n → ∃ g o, A = some ⟨g, o, none⟩ ∧ g < w.heap.size ∧ ∀ i x, bs[i]? = some x → w.cell? ⟨g, o + i, none⟩ = some (.int .u8 x)) ∧ ∀ x ∈ bs, 0 ≤ x ∧ x ≤ 255
theorem NL.keep {w w' : World} {A : Option Addr} {n : Nat} {bs : List Int} (h : NL w A n bs) (hg : w.grownBy w' none) : NL w' A n bs := by
  refine ⟨h.1, fun hn => ?_, h.2.2⟩
  obtain ⟨g, o, e, hl, hc⟩ := h.2.1 hn
  exact ⟨g, o, e, Nat.lt_of_lt_of_le hl hg.size, fun i x hx => (World.cell?_of_block (a := ⟨g, o + i, none⟩) (hg.block g hl (by simp))).trans (hc i x hx)⟩
theorem nl_of_row {w : World} {a : Option Addr} {len cap : Nat} {zs : List Int}
    (h : (a = none ∧ len = 0 ∧ cap = 0 ∧ zs = []) ∨ ∃ x, a = some x ∧ len ≤ cap ∧ cap ≤ maxLen ∧ zs.length = cap ∧ (∀ i, i < zs.length → w.cell? (x.add i) = some (.int .u8 (zs.getD i 0))) ∧ ∀ n ∈ zs, (Lit.int .u8 n).wf = true) :
    NL w a len (zs.take len) ∧ len ≤ 9223372036854775807 ∧ len ≤ cap := by
  rcases h with ⟨rfl, rfl, rfl, rfl⟩ | ⟨x, rfl, hl, hc, hz, hcell, hwf⟩
  · exact ⟨⟨rfl, fun h => absurd h (by omega), fun x hx => by simp at hx⟩, by omega, Nat.le_refl _⟩
  · refine ⟨⟨by rw [List.length_take]; omega, fun h0 => ?_, fun n hn => ?_⟩, by unfold maxLen at hc; omega, hl⟩
    · obtain ⟨b, o, sp⟩ := x
      have c0 := hcell 0 (by omega)
      cases sp with
      | some sp =>
        exfalso
        simp only [Addr.add, World.cell?] at c0
        split at c0 <;> simp at c0
      | none =>
        refine ⟨b, o, rfl, ?_, fun i x hx => ?_⟩
        · have := block_lt_of_cell c0
          simpa [Addr.add] using this
        · have hi : i < len := by have := (List.getElem?_eq_some_iff.1 hx).1; rw [List.length_take] at this; omega
          have ci := hcell i (by omega)
          have hadd : (⟨b, o, none⟩ : Addr).add i = ⟨b, o + i, none⟩ := by unfold Addr.add; split <;> simp_all
          rw [hadd] at ci
          rw [List.getElem?_take, if_pos hi] at hx
          rw [ci, List.getD_eq_getElem?_getD, hx]; rfl
    · have hv := hwf n (List.mem_of_mem_take hn)
      have h1 : IntKind.u8.min = 0 := by decide
      have h2 : IntKind.u8.max = 255 := by decide
      simp only [Lit.wf, h1, h2, Bool.and_eq_true, decide_eq_true_eq] at hv
      omega
/-- The dot of a number. -/
def dotN (b : Int) : Int × Int := (b % 4, 1 + b / 4 % 20)
def dotsN (bs : List Int) : List (Int × Int) := bs.map dotN
theorem dotN_ok (b : Int) : Ok ⟨(dotN b).1, (dotN b).2, (dotN b).2⟩ := by
  unfold dotN Ok
  refine ⟨?_, ?_, ?_, ?_, ?_⟩ <;> simp only [] <;> omega
/-- The cells of dots. -/
def dv (l : List (Int × Int)) : List Value := l.flatMap fun x => [.int .i64 x.1, .int .i64 x.2]
theorem dv_append (a b : List (Int × Int)) : dv (a ++ b) = dv a ++ dv b := by unfold dv; rw [List.flatMap_append]
theorem dv_len (l : List (Int × Int)) : (dv l).length = l.length * 2 := by
  induction l with
  | nil => rfl
  | cons r l ih => show ([Value.int .i64 r.1, .int .i64 r.2] ++ dv l).length = _; rw [List.length_append, ih, List.length_cons]; simp; omega
theorem dv_at (l : List (Int × Int)) (i : Nat) (x : Int × Int) (h : l[i]? = some x) : (dv l)[i * 2]? = some (.int .i64 x.1) ∧ (dv l)[i * 2 + 1]? = some (.int .i64 x.2) := by
  induction l generalizing i with
  | nil => simp at h
  | cons r l ih =>
    cases i with
    | zero =>
      obtain rfl : r = x := by simpa using h
      exact ⟨rfl, rfl⟩
    | succ i =>
      obtain ⟨h0, h1⟩ := ih i (by simpa using h)
      show ([Value.int .i64 r.1, .int .i64 r.2] ++ dv l)[_]? = _ ∧ ([Value.int .i64 r.1, .int .i64 r.2] ++ dv l)[_]? = _
      refine ⟨?_, ?_⟩
      · rw [List.getElem?_append_right (by simp; omega), show (i + 1) * 2 - [Value.int .i64 r.1, .int .i64 r.2].length = i * 2 by simp; omega]; exact h0
      · rw [List.getElem?_append_right (by simp; omega), show (i + 1) * 2 + 1 - [Value.int .i64 r.1, .int .i64 r.2].length = i * 2 + 1 by simp; omega]; exact h1
theorem own_dl {w : World} {B n : Nat} {t : TypeId} {v : Value} {l : List (Int × Int)} (h : w.ownsRow B t 2 v n (dv l)) (hn : l.length = n) : ∃ A c, v = .slice A n c ∧ DL w A n l ∧ n ≤ c := by
  have hcells := fun (g : Nat) (hg : v.ownBlock = some g) => World.ownsRow.cells h hg
  rcases h.2 with ⟨rfl, h0⟩ | ⟨g, cap, cur, rfl, hB, hg, hle, _⟩
  · exact ⟨none, 0, by rw [h0], ⟨hn, fun hp => absurd hp (by omega)⟩, by omega⟩
  · refine ⟨_, cap, rfl, ⟨hn, fun _ => ⟨g, 0, rfl, (Array.getElem?_eq_some_iff.1 hg).1, fun i x hx => ?_⟩⟩, hle⟩
    have hat : ∀ j u, (dv l)[j]? = some u → w.cell? ⟨g, 0 + j, none⟩ = some u := fun j u hu => by
      have := hcells g rfl j u hu
      have hadd : (⟨g, 0, none⟩ : Addr).add j = ⟨g, 0 + j, none⟩ := by unfold Addr.add; split <;> simp_all
      rwa [hadd] at this
    obtain ⟨r0, r1⟩ := dv_at l i x hx
    exact ⟨hat _ _ r0, hat _ _ r1⟩
theorem dot_inf : (Try.prog.info? 27).map (fun i => (i.zero, i.size, i.bytes)) = some (some (.agg #[.int .i64 0, .int .i64 0]), 2, 16) := by kernel_rfl
theorem ints2 (x y : Int) : ∀ u ∈ [Value.int .i64 x, .int .i64 y], u.oneCell' = true := by
  intro u hu
  simp only [List.mem_cons, List.not_mem_nil, or_false] at hu
  obtain rfl | rfl := hu <;> rfl
/-- What a call that answers dots leaves. -/
def Dots (l : List (Int × Int)) (w : World) (e : Ending) (w' : World) : Prop := ∃ A c, e = .returned (.slice A l.length c) ∧ DL w' A l.length l ∧ w.grownBy w' none
set_option maxHeartbeats 8000000 in
set_option maxRecDepth 100000 in
theorem list_any (A : Option Addr) (n c : Nat) (bs : List Int) (w : World) (hl : NL w A n bs) (hn : n ≤ 50000) :
    Calls Try.prog 23 #[.slice A n c] w (Dots (dotsN bs) w) := by
  obtain ⟨i0, hi0, hz0, hz1, hz2⟩ := info_parts dot_inf
  have Hi0 := Lib.hid hi0
  have Hz0 := Lib.hid hz0
  have Hz1 := Lib.hid hz1
  have Hz2 := Lib.hid hz2
  have Hl := Lib.hid hl
  clear hi0 hz0 hz1 hz2 hl
  go_enter Try.func23, Try.ntmps23
  go_wp2_with fail
  go_loopw [4, 3] (fun i v wr => ∃ (k : Nat), k ≤ n ∧ i = .int .i64 k ∧ wr.ownsRow w.heap.size 27 2 v k (dv (dotsN (bs.take k))) ∧ w.grownBy wr none) (fun i _ _ => n - (intOf i).toNat)
  case atStart => exact ⟨0, Nat.zero_le _, rfl, World.ownsRow_nil _ _ _ _, gb_refl _ _⟩
  case round =>
    obtain ⟨k, hk, rfl, hown, hg⟩ := hrel
    by_cases hlt : k < n
    · have d1 : decide (k < n) = true := decide_eq_true hlt
      have d2 : decide ((k : Int) < (n : Int)) = true := decide_eq_true (by omega)
      have bk : (k : Int) < (n : Int) := by omega
      have hNL := Hl.out.keep hg
      obtain ⟨g, o, rfl, hgl, hcc⟩ := hNL.2.1 (by omega)
      obtain ⟨g2, o2, e2, hlo, _⟩ := Hl.out.2.1 (by omega)
      cases e2
      have Hlo := Lib.hid hlo
      obtain ⟨b, hb⟩ : ∃ b, bs[k]? = some b := ⟨_, List.getElem?_eq_getElem (by rw [Hl.out.1]; exact hlt)⟩
      have c0 := hcc k b hb
      obtain ⟨b0, b1⟩ := Hl.out.2.2 b (List.mem_of_getElem? hb)
      have HC : Hid (∀ W, wr.grownBy W none → W.cell? ⟨g, o + k, none⟩ = some (.int .u8 b)) := fun W hW => (World.cell?_of_block (a := ⟨g, o + k, none⟩) (hW.block g hgl (by simp))).trans c0
      have Hmore : Hid (dv (dotsN (bs.take k)) ++ [.int .i64 (b % 4), .int .i64 (1 + b / 4 % 20)] = dv (dotsN (bs.take (k + 1)))) := by
        show _ = _
        rw [List.take_add_one, hb]
        unfold dotsN
        rw [List.map_append, dv_append]
        rfl
      have w1 : IntKind.i64.wrap b = b := by rw [IntKind.wrap_i64]; omega
      have w2 : b.tmod 4 = b % 4 := by rw [Int.tmod_eq_emod_of_nonneg b0]
      have w3 : b.tdiv 4 = b / 4 := by rw [Int.tdiv_eq_ediv_of_nonneg b0]
      have w4 : IntKind.i64.wrap (b / 4) = b / 4 := by rw [IntKind.wrap_i64]; omega
      have w5 : (b / 4).tmod 20 = b / 4 % 20 := by rw [Int.tmod_eq_emod_of_nonneg (by omega)]
      have w6 : IntKind.i64.wrap (1 + b / 4 % 20) = 1 + b / 4 % 20 := by rw [IntKind.wrap_i64]; omega
      have w7 : IntKind.i64.wrap (b % 4) = b % 4 := by rw [IntKind.wrap_i64]; omega
      have w8 : IntKind.i64.wrap (b / 4 % 20) = b / 4 % 20 := by rw [IntKind.wrap_i64]; omega
      have hsz := hg.size
      have Hm : Hid (k + 1 ≤ maxLen ∧ (k + 1) * 16 ≤ 140737488355328) := by show _ ∧ _; simp only [maxLen]; omega
      have Hg := Lib.hid hg
      clear hNL hcc hb b0 b1 hg
      go_upto_region 5 with fail
      go_region_held3 (fun w' => w'.cell? ⟨g, o + k, none⟩ = some (.int .u8 b)) (first | go_keep | exact (World.cell?_of_block (a := ⟨g, o + k, none⟩) (hgrow.block g (by simp; omega) (fun e => by have := (hown.lt g e.symm).1; have := Hlo.out; omega))).trans ((World.cell?_of_block (a := ⟨g, o + k, none⟩) ((gb_drew (gb_alloc (gb_refl wr none) _)).block g hgl (by simp))).trans c0))
        ((refine step_append_lies _ (by rfl) _ _ _ (by rfl) w.heap.size 27 i0 (.agg #[.int .i64 0, .int .i64 0]) 2 16 Try.underlying44 Hi0.out Hz0.out Hz1.out Hz2.out rfl (by decide) _ k _ (by rfl) ((hown.alloc _).drew) ⟨wr.heap.size, 0, none⟩ 1 1 [.int .i64 (b % 4), .int .i64 (1 + b / 4 % 20)] (by rfl) (by rfl) (World.news_of_block (cs := #[.int .i64 (b % 4), .int .i64 (1 + b / 4 % 20)]) (t := 27) (fr := (0, 0)) (heap_alloc_new wr _)) (ints2 _ _) (by decide) Hm.out.1 Hm.out.2 (by simp; omega) (wr.heap.size + 1) (by simp) ?_; intro g' cap' w' own' hgrow hat hlt'))
      have Hg7 : Hid (w.grownBy w' none) := gb_step (gb_drew (gb_alloc Hg.out _)) hgrow (fun i e => .inr (hown.lt i e).1)
      rw [Hmore.out] at own'
      have Hown7 := Lib.hid own'
      clear own' hgrow hat hlt' hown
      go_wp2_with fail
      go_roundw
      case rel => exact ⟨k + 1, by omega, by go_num, Hown7.out, Hg7.out⟩
      case measure => simp [intOf]; omega
    · have hkn : k = n := by omega
      subst hkn
      have d1 : decide (k < k) = false := by simp
      have d2 : decide ((k : Int) < (k : Int)) = false := by simp
      have hfin : bs.take k = bs := List.take_of_length_le (by rw [Hl.out.1]; exact Nat.le_refl _)
      rw [hfin] at hown
      obtain ⟨A3, c3, hv, hR, hc3⟩ := own_dl hown (by unfold dotsN; rw [List.length_map]; exact Hl.out.1)
      subst hv
      have HR := Lib.hid hR
      have Hg := Lib.hid hg
      have He : Hid ((dotsN bs).length = k) := by show _ = _; unfold dotsN; rw [List.length_map]; exact Hl.out.1
      clear hfin hR hown hg hc3 hlt
      go_wp2_with fail
      go_ret
      exact ⟨A3, c3, by rw [He.out]; rfl, by rw [He.out]; exact HR.out, Hg.out⟩
end Go.Proofs.Ytgmgkcackkmgfaa.Dt
