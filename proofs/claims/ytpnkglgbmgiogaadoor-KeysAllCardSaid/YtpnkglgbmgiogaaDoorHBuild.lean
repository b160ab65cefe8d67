/- strings.Builder: WriteString at a builder that is used. -/
import Derived.Test.YtpnkglgbmgiogaaDoorHDerive
import Derived.Test.YtpnkglgbmgiogaaDoorShelf
import Derived.Lib.AppendStr
namespace Go.Proofs.YtpnkglgbmgiogaaDoor.Hh
open Go.RowKit Wd Mm

set_option maxHeartbeats 1000000 in
set_option maxRecDepth 100000 in
theorem check_used (b : Nat) (w : World) (h : w.cell? ⟨b, 0, none⟩ = some (.pointer (some ⟨b, 0, none⟩))) :
    Calls Tryd.prog 46 #[.pointer (some ⟨b, 0, none⟩)] w fun e w' => e = .returned (.tuple #[]) ∧ w = w' := by
  obtain ⟨j, hj, _⟩ := Option.map_eq_some_iff.1 (show (Tryd.prog.info? 60).map (·.size) = some 2 by kernel_rfl)
  go_enter Tryd.func46, Tryd.ntmps46
  go_wp2_with fail
  rw [Lib.run_neq_ptr_same w _ Tryd.underlying58 hj]
  go_wp2_with fail
  go_end0
  exact ⟨rfl, rfl⟩

set_option maxHeartbeats 4000000 in
set_option maxRecDepth 100000 in
theorem write_any (B b : Nat) (bs : List Value) (s : ByteArray) (w : World) (h : Lib.BuilderAt 60 5 B b (.pointer (some ⟨b, 0, none⟩)) bs w) (hlen : bs.length + s.size ≤ 140737488355328) (hBw : B ≤ w.heap.size) :
    Calls Tryd.prog 39 #[.pointer (some ⟨b, 0, none⟩), .string s] w fun e w' => e = .returned (.tuple #[.int .i64 s.size, .nilIface]) ∧ Lib.BuilderAt 60 5 B b (.pointer (some ⟨b, 0, none⟩)) (bs ++ Lib.strCells s) w' ∧ Below B w w' := by
  obtain ⟨hB, v, hb, hown, hne⟩ := h
  obtain ⟨i, hi, hz, hs1, hs2⟩ := info_parts byte_inf
  have hc0 : w.cell? ⟨b, 0, none⟩ = some (.pointer (some ⟨b, 0, none⟩)) := cell_of_row w b 0 _ _ _ hb
  have hc1 : w.cell? ⟨b, 1, none⟩ = some v := cell_of_row w b 1 _ _ _ hb
  obtain ⟨v', w', hrun, hown', hgrow, _⟩ := Lib.run_append_own_string (P := Tryd.prog) w B 37 9 37 5 i Tryd.underlying37 Tryd.underlying9 hi hz hs1 hs2 v bs.length bs hown s (by unfold maxLen; omega) hlen hBw
  obtain ⟨vA, vn, vc, rfl⟩ : ∃ A n c, v' = .slice A n c := by
    rcases hown'.2 with ⟨rfl, _⟩ | ⟨g, cap, cur, rfl, _⟩
    · exact ⟨_, _, _, rfl⟩
    · exact ⟨_, _, _, rfl⟩
  have hb' : w'.heap[b]? = some (.cells #[.pointer (some ⟨b, 0, none⟩), v] 60 (0, 0)) := (hgrow.block b (Array.getElem?_eq_some_iff.1 hb).1 (fun e => hne e.symm)).trans hb
  have hc1' : w'.cell? ⟨b, 1, none⟩ = some v := cell_of_row w' b 1 _ _ _ hb'
  have hf1' : w'.frozen? ⟨b, 1, none⟩ = false := frozen_of_row w' b 1 _ _ hb'
  have Hrun := Lib.hid hrun
  have Hb' := Lib.hid hb'
  have Hown' := Lib.hid hown'
  have Hgrow := Lib.hid hgrow
  have Hown := Lib.hid hown
  clear hrun hb' hown' hgrow hb hi hz hs1 hs2 hown
  go_enter Tryd.func39, Tryd.ntmps39
  go_wp2_with fail
  refine (check_used b _ hc0).mono ?_
  rintro e w1 ⟨rfl, rfl⟩
  go_wp2_with (at_builtin; refine Lib.wpList_append_run _ rfl (.tmp 12) (.tmp 13) 37 9 rfl _ _ rfl rfl _ _ Hrun.out ?_)
  go_ret2
  have hset := heap_setCell_same w' b 1 _ _ (.slice vA vn vc) Hb'.out
  have hgs := gb_set1 w' b 1 (.slice vA vn vc)
  have hne' : (Value.slice vA vn vc).ownBlock ≠ some b := by
    rcases Hown'.out.2 with ⟨hv, _⟩ | ⟨g, cap, cur, hv, _, hh, _⟩
    · rw [hv]; simp [Value.ownBlock]
    · rw [hv]
      intro e
      have e2 : g = b := Option.some.inj e
      subst e2
      have := (show w'.heap[g]? = some (.cells cur 5 (0, 0)) from hh).symm.trans Hb'.out
      injection this with this
      injection this with _ h2
      exact absurd h2 (by decide)
  refine ⟨rfl, ⟨hB, .slice vA vn vc, hset, ?_, hne'⟩, ?_⟩
  · have hl : (bs ++ Lib.strCells s).length = bs.length + s.size := by simpa using Hown'.out.1
    rw [hl]
    exact Hown'.out.kept hgs (.inr hne')
  · have hx : ∀ k, k < B → (w'.setCell ⟨b, 1, none⟩ (.slice vA vn vc)).heap[k]? = w.heap[k]? := fun k hk => by
      rw [hgs.block k (by have := Hgrow.out.size; omega) (fun e => by have := Option.some.inj e; omega)]
      exact Hgrow.out.block k (by omega) (fun e => by have := (Hown.out.lt k e.symm).1; omega)
    exact ⟨Hgrow.out.os, Hgrow.out.tape, Hgrow.out.output, Nat.le_trans Hgrow.out.size hgs.size, hx⟩
end Go.Proofs.YtpnkglgbmgiogaaDoor.Hh
