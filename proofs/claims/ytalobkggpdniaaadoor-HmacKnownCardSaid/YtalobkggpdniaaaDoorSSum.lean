/- sha.Sum: the sum of all parts. -/
import Derived.Test.YtalobkggpdniaaaDoorSFin
import Derived.Test.YtalobkggpdniaaaDoorSAdd
import Derived.Test.YtalobkggpdniaaaDoorSTell
namespace Go.Proofs.YtalobkggpdniaaaDoor
open Go.RowKit Wd Mm

/-- The slice at A, of n texts, holds these. -/
def Strs (w : World) (A : Option Addr) (n : Nat) (ss : List ByteArray) : Prop :=
  ss.length = n ∧ (0 < n → ∃ g o, A = some ⟨g, o, none⟩ ∧ g < w.heap.size ∧ ∀ i, i < n → w.cell? ⟨g, o + i, none⟩ = some (.string (ss.getD i ByteArray.empty)))
theorem Strs.keep {w w' : World} {A : Option Addr} {n : Nat} {ss : List ByteArray} (h : Strs w A n ss) (hg : w.grownBy w' none) : Strs w' A n ss := by
  refine ⟨h.1, fun hn => ?_⟩
  obtain ⟨g, o, e, hl, hc⟩ := h.2 hn
  exact ⟨g, o, e, Nat.lt_of_lt_of_le hl hg.size, fun i hi => by
    have := hg.block g hl (by simp)
    rw [World.cell?_of_block (w := w) (a := ⟨g, o + i, none⟩) this]
    exact hc i hi⟩
/-- All parts, one behind the other. -/
def catB (ss : List ByteArray) : List UInt8 := ss.flatMap fun s => s.data.toList
theorem catB_take (ss : List ByteArray) (k : Nat) (hk : k < ss.length) : catB (ss.take (k + 1)) = catB (ss.take k) ++ (ss.getD k ByteArray.empty).data.toList := by
  unfold catB
  rw [List.take_succ_eq_append_getElem hk, List.flatMap_append]
  simp [hk]

def zeroB : List UInt8 := List.replicate 64 0
theorem zeroB_len : zeroB.length = 64 := by simp [zeroB]
/-- The cells of a running sum that is nothing; that has begun. -/
def zC : Array Value := stC (List.replicate 8 0) zeroB 0 0
def sC : Array Value := stC firstH zeroB 0 0
theorem zC_run (W : World) : (zeroValue 47).run Tryd.prog W = .ok (.agg zC) W := by kernel_rfl
theorem zC_size : zC.size = 74 := stC_size (by decide) zeroB_len
theorem sC_size : sC.size = 74 := stC_size (by decide) zeroB_len
theorem zC_set : (((((((zC.setIfInBounds 0 (Value.int IntKind.u32 1779033703)).setIfInBounds 1 (Value.int IntKind.u32 3144134277)).setIfInBounds 2 (Value.int IntKind.u32 1013904242)).setIfInBounds 3 (Value.int IntKind.u32 2773480762)).setIfInBounds 4 (Value.int IntKind.u32 1359893119)).setIfInBounds 5 (Value.int IntKind.u32 2600822924)).setIfInBounds 6 (Value.int IntKind.u32 528734635)).setIfInBounds 7 (Value.int IntKind.u32 1541459225) = sC := by
  have h := stC_words (List.replicate 8 0) firstH zeroB 0 0 (by decide) (by decide)
  exact h
theorem sC_one : sC.all (·.oneCell') = true := by
  rw [Array.all_eq_true_iff_forall_mem]
  intro v hv
  simp only [sC, stC, List.mem_toArray, List.mem_append, List.mem_map, List.mem_cons, List.not_mem_nil, or_false] at hv
  rcases hv with ⟨x, _, rfl⟩ | ⟨x, _, rfl⟩ | rfl | rfl <;> rfl
theorem size37 : (Tryd.prog.info? 47).map (·.size) = some sC.size := by rw [sC_size]; kernel_rfl

set_option maxHeartbeats 4000000 in
set_option maxRecDepth 100000 in
theorem sum_any (A : Option Addr) (n c : Nat) (ss : List ByteArray) (w : World) (hn : n ≤ 9223372036854775807) (hsz : ∀ i, i < n → (ss.getD i ByteArray.empty).size ≤ 9223372036854775807) (hs : Strs w A n ss) (hT : Tabs w) :
    Calls Tryd.prog 14 #[.slice A n c] w
      fun e w' => e = .returned (.string ⟨(shaS (catB ss)).toArray⟩) ∧ w.grownBy w' none := by
  have c0 : w.cell? ⟨0, 0, none⟩ = some (.int .u32 1779033703) := hT.2.1 0 (by decide)
  have c1 : w.cell? ⟨0, 1, none⟩ = some (.int .u32 3144134277) := hT.2.1 1 (by decide)
  have c2 : w.cell? ⟨0, 2, none⟩ = some (.int .u32 1013904242) := hT.2.1 2 (by decide)
  have c3 : w.cell? ⟨0, 3, none⟩ = some (.int .u32 2773480762) := hT.2.1 3 (by decide)
  have c4 : w.cell? ⟨0, 4, none⟩ = some (.int .u32 1359893119) := hT.2.1 4 (by decide)
  have c5 : w.cell? ⟨0, 5, none⟩ = some (.int .u32 2600822924) := hT.2.1 5 (by decide)
  have c6 : w.cell? ⟨0, 6, none⟩ = some (.int .u32 528734635) := hT.2.1 6 (by decide)
  have c7 : w.cell? ⟨0, 7, none⟩ = some (.int .u32 1541459225) := hT.2.1 7 (by decide)
  have Hsz := Lib.hid hsz
  have Hs := Lib.hid hs
  clear hsz hs
  go_enter Tryd.func14, Tryd.ntmps14
  have hz := zC_run
  have hz2 := zC_size
  have hz3 := zC_set
  go_wp2_with (refine wpList_store_row rfl 47 (.tmp 3) (.tmp 7) rfl w.heap.size _ rfl rfl 47 _ (heap_alloc_new _ _) size37 ?hz sC_one ?_)
  case hz => rw [zC_size, sC_size]
  have rr : Row ((w.alloc (.cells zC 47)).setRow w.heap.size sC) w.heap.size 47 sC := Row.setRow_ (heap_alloc_new _ _) _
  have gg : w.grownBy ((w.alloc (.cells zC 47)).setRow w.heap.size sC) none := gb_new (gb_alloc (gb_refl _ _) _) (gb_setRow1 _ _ _) (Nat.le_refl _)
  have h1w : 3 < w.heap.size := hT.1
  clear hz hz2 hz3 c0 c1 c2 c3 c4 c5 c6 c7
  go_loopw [10] (fun i wr => ∃ k : Nat, k ≤ n ∧ i = .int .i64 k ∧ Run wr w.heap.size (catB (ss.take k)) ((catB (ss.take k)).length % 18446744073709551616) ∧ w.grownBy wr none) (fun i _ => n - (intOf i).toNat)
  case atStart =>
    refine ⟨0, Nat.zero_le _, rfl, ?_, gg⟩
    have e0 : catB (ss.take 0) = [] := by simp [catB]
    rw [e0]
    exact ⟨zeroB, zeroB_len, by simp, rr⟩
  case round =>
    clear rr gg
    obtain ⟨k, hk, rfl, hr, hg⟩ := hrel
    have hTr := hT.keep hg (by simp)
    by_cases hlt : k < n
    · have hdec : decide (k < n) = true := decide_eq_true hlt
      have hdec2 : decide ((k : Int) < (n : Int)) = true := decide_eq_true (by omega)
      obtain ⟨g, o, rfl, hgl, hc⟩ := (Hs.out.keep hg).2 (by omega)
      have hck := hc k hlt
      have hszk := Hsz.out k hlt
      have hsl : k < ss.length := by rw [Hs.out.1]; exact hlt
      have Hcat := Lib.hid (catB_take ss k hsl)
      generalize hp : ss.getD k ByteArray.empty = p at *
      clear hp hc hsl
      go_wp2_with fail
      refine (add_any w.heap.size _ _ p _ hszk (by exact hTr) h1w (by exact hr)).mono ?_
      rintro e w2 ⟨rfl, r2, g2⟩
      go_wp2_with fail
      go_roundw
      case rel =>
        refine ⟨k + 1, by omega, by go_num, ?_, gb_new hg g2 (Nat.le_refl _)⟩
        rw [Hcat.out]
        have e : ((catB (ss.take k)).length % 18446744073709551616 + p.size) % 18446744073709551616 = (catB (ss.take k) ++ p.data.toList).length % 18446744073709551616 := by
          rw [List.length_append]
          have : p.data.toList.length = p.size := by simp
          omega
        rw [← e]; exact r2
      case measure => simp [intOf]; omega
    · have hkn : k = n := by omega
      have hdec : decide (k < n) = false := decide_eq_false hlt
      have hdec2 : decide ((k : Int) < (n : Int)) = false := decide_eq_false (by omega)
      have hall : ss.take k = ss := List.take_of_length_le (by rw [Hs.out.1]; omega)
      rw [hall] at hr
      obtain ⟨B, hB, htk, hrow⟩ := hr
      generalize hM : catB ss = M at *
      have hl := runB_len M (M.length / 64)
      have Hend := Lib.hid (end_sha M B _ _ hB rfl rfl htk)
      have HB := Lib.hid hB
      have Hl := Lib.hid hl
      have hh : M.length % 64 < 64 := Nat.mod_lt _ (by decide)
      have HM := Lib.hid hM
      clear hkn hall hM hB hl htk
      go_wp2_with fail
      refine (end_any w.heap.size _ B _ _ _ Hl.out HB.out hh (by exact hTr) h1w (by exact hrow)).mono ?_
      rintro e w2 ⟨rfl, ⟨B', hB', r2⟩, g2⟩
      rw [Hend.out] at r2
      have g3 := gb_new hg g2 (Nat.le_refl _)
      clear hrow hg g2
      go_wp2_with fail
      refine (told_any w.heap.size _ B' _ _ _ (runB_len _ _) (by exact r2)).mono ?_
      rintro e w3 ⟨rfl, g4⟩
      go_wp2_with fail
      go_ret
      have hM' := HM.out
      subst hM'
      exact ⟨rfl, gb_none g3 g4⟩
end Go.Proofs.YtalobkggpdniaaaDoor
