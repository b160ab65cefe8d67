/- The document's MayRecord, PutRecord, Hash. Written by gen_mbref.py. -/
import Derived.Test.YtaecfcodldbnhaaMbMay
import Derived.Test.YtaecfcodldbnhaaMbC
import Derived.Test.YtaecfcodldbnhaaVF
import Derived.Test.YtaecfcodldbnhaaVD
import Derived.Test.YtaecfcodldbnhaaToldM
import Derived.Deep.DeepCutAuto
import Derived.Deep.AppendLies
import Derived.Maps.AppendAt
set_option linter.unusedVariables false
namespace Go.Proofs.Ytaecfcodldbnhaa.Mb
open Go Go.RowKit Go.Proofs.Ytaecfcodldbnhaa.Mm Go.Proofs.Ytaecfcodldbnhaa.Td Go.Proofs.Ytaecfcodldbnhaa.Vw Go.Proofs.Ytaecfcodldbnhaa.Dt

attribute [local go_sem] Td.upon_value Td.upon_skip Td.upon_enter Td.upon_row Td.look_tmp Td.look_const Td.look_func Td.look_global
set_option maxHeartbeats 40000000 in
set_option maxRecDepth 100000 in
theorem refMay_no (r : Rc) (A : Option Addr) (c : Nat) (w : World) (hw : WL w A r.wraps.length r.wraps) (hn : r.wraps.length ≤ 1099511627776) (hm : ¬ MayH r) :
    Calls Try.prog 23 #[.agg #[.int .i64 r.seq, .string r.prev, .int .i64 r.kind, .int .i64 r.dev, .slice A r.wraps.length c, .string r.tag]] w (BoolIs (MayR r) w) := by
  have HE : Hid (¬ MayR r) := fun h => hm h.1
  obtain ⟨b0, hb0⟩ : ∃ b0, w.heap.size = b0 := ⟨_, rfl⟩
  obtain ⟨W0, hW0⟩ : ∃ W0, w.alloc (.cells #[.int .i64 r.seq, .string r.prev, .int .i64 r.kind, .int .i64 r.dev, .slice A r.wraps.length c, .string r.tag] 32) = W0 := ⟨_, rfl⟩
  obtain ⟨G0, HX⟩ := rec_box hb0 hW0 hw
  have HG := Lib.hid G0
  have Hn := Lib.hid hn
  obtain ⟨⟨y0, y1, y2, y3, y4, y5⟩, _⟩ := HX.out W0 (gb_refl _ _)
  clear G0 hw hn
  by_cases h1 : 1 ≤ r.seq
  · have q1 : decide (r.seq < 1) = false := decide_eq_false (by omega)
    by_cases h2 : r.seq ≤ 1048576
    · have q2 : decide (1048576 < r.seq) = false := decide_eq_false (by omega)
      by_cases h3 : r.prev.size = 32
      · have h3e : ((r.prev.size : Int) == 32) = true := eq_yes (by omega)
        have h3n : ((r.prev.size : Int) != 32) = false := by rw [bne, h3e]; rfl
        by_cases h4 : r.kind = 1
        · have h4e : ((r.kind : Int) == 1) = true := eq_yes (by omega)
          have h4n : ((r.kind : Int) != 1) = false := by rw [bne, h4e]; rfl
          by_cases h5 : 0 ≤ r.dev
          · have q5 : decide (r.dev < 0) = false := decide_eq_false (by omega)
            by_cases h6 : r.dev < 8
            · have q6 : decide (8 ≤ r.dev) = false := decide_eq_false (by omega)
              by_cases h7 : r.tag.size = 16
              · have h7e : ((r.tag.size : Int) == 16) = true := eq_yes (by omega)
                have h7n : ((r.tag.size : Int) != 16) = false := by rw [bne, h7e]; rfl
                exact absurd (show MayH r from by unfold MayH; omega) hm
              · have h7e : ((r.tag.size : Int) == 16) = false := eq_no (by omega)
                have h7n : ((r.tag.size : Int) != 16) = true := by rw [bne, h7e]; rfl
                by_cases h7a : r.tag.size = 0
                · have h7ae : (r.tag.toList == []) = true := str_none h7a
                  have h7an : (r.tag.toList != []) = false := by rw [bne, h7ae]; rfl
                  exact absurd (show MayH r from by unfold MayH; omega) hm
                · have h7ae : (r.tag.toList == []) = false := str_some h7a
                  have h7an : (r.tag.toList != []) = true := by rw [bne, h7ae]; rfl
                  clear h1 h2 h3 h4 h5 h6 h7 h7a
                  go_enter Try.func23, Try.ntmps23
                  go_upto_region 1 with fail
                  clear hW0 hb0
                  go_wp2_with fail
                  go_ret
                  exact .of_no HE.out HG.out
            · have q6 : decide (8 ≤ r.dev) = true := decide_eq_true (by omega)
              clear h1 h2 h3 h4 h5 h6
              go_enter Try.func23, Try.ntmps23
              go_upto_region 1 with fail
              clear hW0 hb0
              go_wp2_with fail
              go_ret
              exact .of_no HE.out HG.out
          · have q5 : decide (r.dev < 0) = true := decide_eq_true (by omega)
            clear h1 h2 h3 h4 h5
            go_enter Try.func23, Try.ntmps23
            go_upto_region 1 with fail
            clear hW0 hb0
            go_wp2_with fail
            go_ret
            exact .of_no HE.out HG.out
        · have h4e : ((r.kind : Int) == 1) = false := eq_no (by omega)
          have h4n : ((r.kind : Int) != 1) = true := by rw [bne, h4e]; rfl
          by_cases h4a : r.kind = 2
          · have h4ae : ((r.kind : Int) == 2) = true := eq_yes (by omega)
            have h4an : ((r.kind : Int) != 2) = false := by rw [bne, h4ae]; rfl
            by_cases h5 : 0 ≤ r.dev
            · have q5 : decide (r.dev < 0) = false := decide_eq_false (by omega)
              by_cases h6 : r.dev < 8
              · have q6 : decide (8 ≤ r.dev) = false := decide_eq_false (by omega)
                by_cases h7 : r.tag.size = 16
                · have h7e : ((r.tag.size : Int) == 16) = true := eq_yes (by omega)
                  have h7n : ((r.tag.size : Int) != 16) = false := by rw [bne, h7e]; rfl
                  exact absurd (show MayH r from by unfold MayH; omega) hm
                · have h7e : ((r.tag.size : Int) == 16) = false := eq_no (by omega)
                  have h7n : ((r.tag.size : Int) != 16) = true := by rw [bne, h7e]; rfl
                  by_cases h7a : r.tag.size = 0
                  · have h7ae : (r.tag.toList == []) = true := str_none h7a
                    have h7an : (r.tag.toList != []) = false := by rw [bne, h7ae]; rfl
                    exact absurd (show MayH r from by unfold MayH; omega) hm
                  · have h7ae : (r.tag.toList == []) = false := str_some h7a
                    have h7an : (r.tag.toList != []) = true := by rw [bne, h7ae]; rfl
                    clear h1 h2 h3 h4 h4a h5 h6 h7 h7a
                    go_enter Try.func23, Try.ntmps23
                    go_upto_region 1 with fail
                    clear hW0 hb0
                    go_wp2_with fail
                    go_ret
                    exact .of_no HE.out HG.out
              · have q6 : decide (8 ≤ r.dev) = true := decide_eq_true (by omega)
                clear h1 h2 h3 h4 h4a h5 h6
                go_enter Try.func23, Try.ntmps23
                go_upto_region 1 with fail
                clear hW0 hb0
                go_wp2_with fail
                go_ret
                exact .of_no HE.out HG.out
            · have q5 : decide (r.dev < 0) = true := decide_eq_true (by omega)
              clear h1 h2 h3 h4 h4a h5
              go_enter Try.func23, Try.ntmps23
              go_upto_region 1 with fail
              clear hW0 hb0
              go_wp2_with fail
              go_ret
              exact .of_no HE.out HG.out
          · have h4ae : ((r.kind : Int) == 2) = false := eq_no (by omega)
            have h4an : ((r.kind : Int) != 2) = true := by rw [bne, h4ae]; rfl
            clear h1 h2 h3 h4 h4a
            go_enter Try.func23, Try.ntmps23
            go_upto_region 1 with fail
            clear hW0 hb0
            go_wp2_with fail
            go_ret
            exact .of_no HE.out HG.out
      · have h3e : ((r.prev.size : Int) == 32) = false := eq_no (by omega)
        have h3n : ((r.prev.size : Int) != 32) = true := by rw [bne, h3e]; rfl
        by_cases h3a : r.seq = 1
        · have h3ae : ((r.seq : Int) == 1) = true := eq_yes (by omega)
          have h3an : ((r.seq : Int) != 1) = false := by rw [bne, h3ae]; rfl
          by_cases h3b : r.prev.size = 0
          · have h3be : (r.prev.toList == []) = true := str_none h3b
            have h3bn : (r.prev.toList != []) = false := by rw [bne, h3be]; rfl
            by_cases h4 : r.kind = 1
            · have h4e : ((r.kind : Int) == 1) = true := eq_yes (by omega)
              have h4n : ((r.kind : Int) != 1) = false := by rw [bne, h4e]; rfl
              by_cases h5 : 0 ≤ r.dev
              · have q5 : decide (r.dev < 0) = false := decide_eq_false (by omega)
                by_cases h6 : r.dev < 8
                · have q6 : decide (8 ≤ r.dev) = false := decide_eq_false (by omega)
                  by_cases h7 : r.tag.size = 16
                  · have h7e : ((r.tag.size : Int) == 16) = true := eq_yes (by omega)
                    have h7n : ((r.tag.size : Int) != 16) = false := by rw [bne, h7e]; rfl
                    exact absurd (show MayH r from by unfold MayH; omega) hm
                  · have h7e : ((r.tag.size : Int) == 16) = false := eq_no (by omega)
                    have h7n : ((r.tag.size : Int) != 16) = true := by rw [bne, h7e]; rfl
                    by_cases h7a : r.tag.size = 0
                    · have h7ae : (r.tag.toList == []) = true := str_none h7a
                      have h7an : (r.tag.toList != []) = false := by rw [bne, h7ae]; rfl
                      exact absurd (show MayH r from by unfold MayH; omega) hm
                    · have h7ae : (r.tag.toList == []) = false := str_some h7a
                      have h7an : (r.tag.toList != []) = true := by rw [bne, h7ae]; rfl
                      clear h1 h2 h3 h3a h3b h4 h5 h6 h7 h7a
                      go_enter Try.func23, Try.ntmps23
                      go_upto_region 1 with fail
                      clear hW0 hb0
                      go_wp2_with fail
                      go_ret
                      exact .of_no HE.out HG.out
                · have q6 : decide (8 ≤ r.dev) = true := decide_eq_true (by omega)
                  clear h1 h2 h3 h3a h3b h4 h5 h6
                  go_enter Try.func23, Try.ntmps23
                  go_upto_region 1 with fail
                  clear hW0 hb0
                  go_wp2_with fail
                  go_ret
                  exact .of_no HE.out HG.out
              · have q5 : decide (r.dev < 0) = true := decide_eq_true (by omega)
                clear h1 h2 h3 h3a h3b h4 h5
                go_enter Try.func23, Try.ntmps23
                go_upto_region 1 with fail
                clear hW0 hb0
                go_wp2_with fail
                go_ret
                exact .of_no HE.out HG.out
            · have h4e : ((r.kind : Int) == 1) = false := eq_no (by omega)
              have h4n : ((r.kind : Int) != 1) = true := by rw [bne, h4e]; rfl
              by_cases h4a : r.kind = 2
              · have h4ae : ((r.kind : Int) == 2) = true := eq_yes (by omega)
                have h4an : ((r.kind : Int) != 2) = false := by rw [bne, h4ae]; rfl
                by_cases h5 : 0 ≤ r.dev
                · have q5 : decide (r.dev < 0) = false := decide_eq_false (by omega)
                  by_cases h6 : r.dev < 8
                  · have q6 : decide (8 ≤ r.dev) = false := decide_eq_false (by omega)
                    by_cases h7 : r.tag.size = 16
                    · have h7e : ((r.tag.size : Int) == 16) = true := eq_yes (by omega)
                      have h7n : ((r.tag.size : Int) != 16) = false := by rw [bne, h7e]; rfl
                      exact absurd (show MayH r from by unfold MayH; omega) hm
                    · have h7e : ((r.tag.size : Int) == 16) = false := eq_no (by omega)
                      have h7n : ((r.tag.size : Int) != 16) = true := by rw [bne, h7e]; rfl
                      by_cases h7a : r.tag.size = 0
                      · have h7ae : (r.tag.toList == []) = true := str_none h7a
                        have h7an : (r.tag.toList != []) = false := by rw [bne, h7ae]; rfl
                        exact absurd (show MayH r from by unfold MayH; omega) hm
                      · have h7ae : (r.tag.toList == []) = false := str_some h7a
                        have h7an : (r.tag.toList != []) = true := by rw [bne, h7ae]; rfl
                        clear h1 h2 h3 h3a h3b h4 h4a h5 h6 h7 h7a
                        go_enter Try.func23, Try.ntmps23
                        go_upto_region 1 with fail
                        clear hW0 hb0
                        go_wp2_with fail
                        go_ret
                        exact .of_no HE.out HG.out
                  · have q6 : decide (8 ≤ r.dev) = true := decide_eq_true (by omega)
                    clear h1 h2 h3 h3a h3b h4 h4a h5 h6
                    go_enter Try.func23, Try.ntmps23
                    go_upto_region 1 with fail
                    clear hW0 hb0
                    go_wp2_with fail
                    go_ret
                    exact .of_no HE.out HG.out
                · have q5 : decide (r.dev < 0) = true := decide_eq_true (by omega)
                  clear h1 h2 h3 h3a h3b h4 h4a h5
                  go_enter Try.func23, Try.ntmps23
                  go_upto_region 1 with fail
                  clear hW0 hb0
                  go_wp2_with fail
                  go_ret
                  exact .of_no HE.out HG.out
              · have h4ae : ((r.kind : Int) == 2) = false := eq_no (by omega)
                have h4an : ((r.kind : Int) != 2) = true := by rw [bne, h4ae]; rfl
                clear h1 h2 h3 h3a h3b h4 h4a
                go_enter Try.func23, Try.ntmps23
                go_upto_region 1 with fail
                clear hW0 hb0
                go_wp2_with fail
                go_ret
                exact .of_no HE.out HG.out
          · have h3be : (r.prev.toList == []) = false := str_some h3b
            have h3bn : (r.prev.toList != []) = true := by rw [bne, h3be]; rfl
            clear h1 h2 h3 h3a h3b
            go_enter Try.func23, Try.ntmps23
            go_upto_region 1 with fail
            clear hW0 hb0
            go_wp2_with fail
            go_ret
            exact .of_no HE.out HG.out
        · have h3ae : ((r.seq : Int) == 1) = false := eq_no (by omega)
          have h3an : ((r.seq : Int) != 1) = true := by rw [bne, h3ae]; rfl
          clear h1 h2 h3 h3a
          go_enter Try.func23, Try.ntmps23
          go_upto_region 1 with fail
          clear hW0 hb0
          go_wp2_with fail
          go_ret
          exact .of_no HE.out HG.out
    · have q2 : decide (1048576 < r.seq) = true := decide_eq_true (by omega)
      clear h1 h2
      go_enter Try.func23, Try.ntmps23
      go_upto_region 1 with fail
      clear hW0 hb0
      go_wp2_with fail
      go_ret
      exact .of_no HE.out HG.out
  · have q1 : decide (r.seq < 1) = true := decide_eq_true (by omega)
    clear h1
    go_enter Try.func23, Try.ntmps23
    go_upto_region 1 with fail
    clear hW0 hb0
    go_wp2_with fail
    go_ret
    exact .of_no HE.out HG.out
set_option maxHeartbeats 40000000 in
set_option maxRecDepth 100000 in
theorem refMay_yes (r : Rc) (A : Option Addr) (c : Nat) (w : World) (hw : WL w A r.wraps.length r.wraps) (hn : r.wraps.length ≤ 1099511627776) (hm : MayH r) :
    Calls Try.prog 23 #[.agg #[.int .i64 r.seq, .string r.prev, .int .i64 r.kind, .int .i64 r.dev, .slice A r.wraps.length c, .string r.tag]] w (BoolIs (MayH r ∧ WrapsOk r.wraps) w) := by
  obtain ⟨b0, hb0⟩ : ∃ b0, w.heap.size = b0 := ⟨_, rfl⟩
  obtain ⟨W0, hW0⟩ : ∃ W0, w.alloc (.cells #[.int .i64 r.seq, .string r.prev, .int .i64 r.kind, .int .i64 r.dev, .slice A r.wraps.length c, .string r.tag] 32) = W0 := ⟨_, rfl⟩
  obtain ⟨G0, HX⟩ := rec_box hb0 hW0 hw
  have HG := Lib.hid G0
  have Hn := Lib.hid hn
  obtain ⟨⟨y0, y1, y2, y3, y4, y5⟩, _⟩ := HX.out W0 (gb_refl _ _)
  clear G0 hw hn
  go_enter Try.func23, Try.ntmps23
  go_upto_region 1 with fail
  clear hW0 hb0
  go_cut [59] (fun c wx => c = .bool false ∧ wx = W0)
  case first =>
    by_cases h1 : 1 ≤ r.seq
    · have q1 : decide (r.seq < 1) = false := decide_eq_false (by omega)
      by_cases h2 : r.seq ≤ 1048576
      · have q2 : decide (1048576 < r.seq) = false := decide_eq_false (by omega)
        by_cases h3 : r.prev.size = 32
        · have h3e : ((r.prev.size : Int) == 32) = true := eq_yes (by omega)
          have h3n : ((r.prev.size : Int) != 32) = false := by rw [bne, h3e]; rfl
          by_cases h4 : r.kind = 1
          · have h4e : ((r.kind : Int) == 1) = true := eq_yes (by omega)
            have h4n : ((r.kind : Int) != 1) = false := by rw [bne, h4e]; rfl
            by_cases h5 : 0 ≤ r.dev
            · have q5 : decide (r.dev < 0) = false := decide_eq_false (by omega)
              by_cases h6 : r.dev < 8
              · have q6 : decide (8 ≤ r.dev) = false := decide_eq_false (by omega)
                by_cases h7 : r.tag.size = 16
                · have h7e : ((r.tag.size : Int) == 16) = true := eq_yes (by omega)
                  have h7n : ((r.tag.size : Int) != 16) = false := by rw [bne, h7e]; rfl
                  clear h1 h2 h3 h4 h5 h6 h7
                  go_wp2_with fail
                  go_meet
                  exact ⟨rfl, rfl⟩
                · have h7e : ((r.tag.size : Int) == 16) = false := eq_no (by omega)
                  have h7n : ((r.tag.size : Int) != 16) = true := by rw [bne, h7e]; rfl
                  by_cases h7a : r.tag.size = 0
                  · have h7ae : (r.tag.toList == []) = true := str_none h7a
                    have h7an : (r.tag.toList != []) = false := by rw [bne, h7ae]; rfl
                    clear h1 h2 h3 h4 h5 h6 h7 h7a
                    go_wp2_with fail
                    go_meet
                    exact ⟨rfl, rfl⟩
                  · have h7ae : (r.tag.toList == []) = false := str_some h7a
                    have h7an : (r.tag.toList != []) = true := by rw [bne, h7ae]; rfl
                    exact absurd hm (fun h => by unfold MayH at h; omega)
              · have q6 : decide (8 ≤ r.dev) = true := decide_eq_true (by omega)
                exact absurd hm (fun h => by unfold MayH at h; omega)
            · have q5 : decide (r.dev < 0) = true := decide_eq_true (by omega)
              exact absurd hm (fun h => by unfold MayH at h; omega)
          · have h4e : ((r.kind : Int) == 1) = false := eq_no (by omega)
            have h4n : ((r.kind : Int) != 1) = true := by rw [bne, h4e]; rfl
            by_cases h4a : r.kind = 2
            · have h4ae : ((r.kind : Int) == 2) = true := eq_yes (by omega)
              have h4an : ((r.kind : Int) != 2) = false := by rw [bne, h4ae]; rfl
              by_cases h5 : 0 ≤ r.dev
              · have q5 : decide (r.dev < 0) = false := decide_eq_false (by omega)
                by_cases h6 : r.dev < 8
                · have q6 : decide (8 ≤ r.dev) = false := decide_eq_false (by omega)
                  by_cases h7 : r.tag.size = 16
                  · have h7e : ((r.tag.size : Int) == 16) = true := eq_yes (by omega)
                    have h7n : ((r.tag.size : Int) != 16) = false := by rw [bne, h7e]; rfl
                    clear h1 h2 h3 h4 h4a h5 h6 h7
                    go_wp2_with fail
                    go_meet
                    exact ⟨rfl, rfl⟩
                  · have h7e : ((r.tag.size : Int) == 16) = false := eq_no (by omega)
                    have h7n : ((r.tag.size : Int) != 16) = true := by rw [bne, h7e]; rfl
                    by_cases h7a : r.tag.size = 0
                    · have h7ae : (r.tag.toList == []) = true := str_none h7a
                      have h7an : (r.tag.toList != []) = false := by rw [bne, h7ae]; rfl
                      clear h1 h2 h3 h4 h4a h5 h6 h7 h7a
                      go_wp2_with fail
                      go_meet
                      exact ⟨rfl, rfl⟩
                    · have h7ae : (r.tag.toList == []) = false := str_some h7a
                      have h7an : (r.tag.toList != []) = true := by rw [bne, h7ae]; rfl
                      exact absurd hm (fun h => by unfold MayH at h; omega)
                · have q6 : decide (8 ≤ r.dev) = true := decide_eq_true (by omega)
                  exact absurd hm (fun h => by unfold MayH at h; omega)
              · have q5 : decide (r.dev < 0) = true := decide_eq_true (by omega)
                exact absurd hm (fun h => by unfold MayH at h; omega)
            · have h4ae : ((r.kind : Int) == 2) = false := eq_no (by omega)
              have h4an : ((r.kind : Int) != 2) = true := by rw [bne, h4ae]; rfl
              exact absurd hm (fun h => by unfold MayH at h; omega)
        · have h3e : ((r.prev.size : Int) == 32) = false := eq_no (by omega)
          have h3n : ((r.prev.size : Int) != 32) = true := by rw [bne, h3e]; rfl
          by_cases h3a : r.seq = 1
          · have h3ae : ((r.seq : Int) == 1) = true := eq_yes (by omega)
            have h3an : ((r.seq : Int) != 1) = false := by rw [bne, h3ae]; rfl
            by_cases h3b : r.prev.size = 0
            · have h3be : (r.prev.toList == []) = true := str_none h3b
              have h3bn : (r.prev.toList != []) = false := by rw [bne, h3be]; rfl
              by_cases h4 : r.kind = 1
              · have h4e : ((r.kind : Int) == 1) = true := eq_yes (by omega)
                have h4n : ((r.kind : Int) != 1) = false := by rw [bne, h4e]; rfl
                by_cases h5 : 0 ≤ r.dev
                · have q5 : decide (r.dev < 0) = false := decide_eq_false (by omega)
                  by_cases h6 : r.dev < 8
                  · have q6 : decide (8 ≤ r.dev) = false := decide_eq_false (by omega)
                    by_cases h7 : r.tag.size = 16
                    · have h7e : ((r.tag.size : Int) == 16) = true := eq_yes (by omega)
                      have h7n : ((r.tag.size : Int) != 16) = false := by rw [bne, h7e]; rfl
                      clear h1 h2 h3 h3a h3b h4 h5 h6 h7
                      go_wp2_with fail
                      go_meet
                      exact ⟨rfl, rfl⟩
                    · have h7e : ((r.tag.size : Int) == 16) = false := eq_no (by omega)
                      have h7n : ((r.tag.size : Int) != 16) = true := by rw [bne, h7e]; rfl
                      by_cases h7a : r.tag.size = 0
                      · have h7ae : (r.tag.toList == []) = true := str_none h7a
                        have h7an : (r.tag.toList != []) = false := by rw [bne, h7ae]; rfl
                        clear h1 h2 h3 h3a h3b h4 h5 h6 h7 h7a
                        go_wp2_with fail
                        go_meet
                        exact ⟨rfl, rfl⟩
                      · have h7ae : (r.tag.toList == []) = false := str_some h7a
                        have h7an : (r.tag.toList != []) = true := by rw [bne, h7ae]; rfl
                        exact absurd hm (fun h => by unfold MayH at h; omega)
                  · have q6 : decide (8 ≤ r.dev) = true := decide_eq_true (by omega)
                    exact absurd hm (fun h => by unfold MayH at h; omega)
                · have q5 : decide (r.dev < 0) = true := decide_eq_true (by omega)
                  exact absurd hm (fun h => by unfold MayH at h; omega)
              · have h4e : ((r.kind : Int) == 1) = false := eq_no (by omega)
                have h4n : ((r.kind : Int) != 1) = true := by rw [bne, h4e]; rfl
                by_cases h4a : r.kind = 2
                · have h4ae : ((r.kind : Int) == 2) = true := eq_yes (by omega)
                  have h4an : ((r.kind : Int) != 2) = false := by rw [bne, h4ae]; rfl
                  by_cases h5 : 0 ≤ r.dev
                  · have q5 : decide (r.dev < 0) = false := decide_eq_false (by omega)
                    by_cases h6 : r.dev < 8
                    · have q6 : decide (8 ≤ r.dev) = false := decide_eq_false (by omega)
                      by_cases h7 : r.tag.size = 16
                      · have h7e : ((r.tag.size : Int) == 16) = true := eq_yes (by omega)
                        have h7n : ((r.tag.size : Int) != 16) = false := by rw [bne, h7e]; rfl
                        clear h1 h2 h3 h3a h3b h4 h4a h5 h6 h7
                        go_wp2_with fail
                        go_meet
                        exact ⟨rfl, rfl⟩
                      · have h7e : ((r.tag.size : Int) == 16) = false := eq_no (by omega)
                        have h7n : ((r.tag.size : Int) != 16) = true := by rw [bne, h7e]; rfl
                        by_cases h7a : r.tag.size = 0
                        · have h7ae : (r.tag.toList == []) = true := str_none h7a
                          have h7an : (r.tag.toList != []) = false := by rw [bne, h7ae]; rfl
                          clear h1 h2 h3 h3a h3b h4 h4a h5 h6 h7 h7a
                          go_wp2_with fail
                          go_meet
                          exact ⟨rfl, rfl⟩
                        · have h7ae : (r.tag.toList == []) = false := str_some h7a
                          have h7an : (r.tag.toList != []) = true := by rw [bne, h7ae]; rfl
                          exact absurd hm (fun h => by unfold MayH at h; omega)
                    · have q6 : decide (8 ≤ r.dev) = true := decide_eq_true (by omega)
                      exact absurd hm (fun h => by unfold MayH at h; omega)
                  · have q5 : decide (r.dev < 0) = true := decide_eq_true (by omega)
                    exact absurd hm (fun h => by unfold MayH at h; omega)
                · have h4ae : ((r.kind : Int) == 2) = false := eq_no (by omega)
                  have h4an : ((r.kind : Int) != 2) = true := by rw [bne, h4ae]; rfl
                  exact absurd hm (fun h => by unfold MayH at h; omega)
            · have h3be : (r.prev.toList == []) = false := str_some h3b
              have h3bn : (r.prev.toList != []) = true := by rw [bne, h3be]; rfl
              exact absurd hm (fun h => by unfold MayH at h; omega)
          · have h3ae : ((r.seq : Int) == 1) = false := eq_no (by omega)
            have h3an : ((r.seq : Int) != 1) = true := by rw [bne, h3ae]; rfl
            exact absurd hm (fun h => by unfold MayH at h; omega)
      · have q2 : decide (1048576 < r.seq) = true := decide_eq_true (by omega)
        exact absurd hm (fun h => by unfold MayH at h; omega)
    · have q1 : decide (r.seq < 1) = true := decide_eq_true (by omega)
      exact absurd hm (fun h => by unfold MayH at h; omega)
  case rest =>
    obtain ⟨rfl, hwc⟩ := hcut
    have hwc2 := hwc.symm
    subst hwc2
    have Hm := Lib.hid hm
    clear hm y0 y1 y2 y3 y4 y5
    obtain ⟨n, hnn⟩ : ∃ n, r.wraps.length = n := ⟨_, rfl⟩
    have Hnn := Lib.hid hnn
    have Hn := Lib.hid (show n ≤ 1099511627776 from hnn ▸ Hn.out)
    clear hnn
    go_wp2_with fail
    go_loopw [3] (fun i wr => ∃ k : Nat, k ≤ n ∧ i = .int .i64 k ∧ Hid (WrapsOk (r.wraps.take k)) ∧ W0.grownBy wr none) (fun i _ => n - (intOf i).toNat)
    case atStart => exact ⟨0, Nat.zero_le _, rfl, wraps_nil, gb_refl _ _⟩
    case round =>
      obtain ⟨k, hk, rfl, HK, hg⟩ := hrel
      obtain ⟨⟨_, _, _, _, y4, _⟩, hWL⟩ := HX.out wr hg
      rw [Hnn.out] at y4 hWL
      by_cases hlt : k < n
      · have d1 : decide (k < n) = true := decide_eq_true hlt
        have d2 : decide ((k : Int) < (n : Int)) = true := decide_eq_true (by omega)
        have bk : (k : Int) < (n : Int) := by omega
        obtain ⟨g, o, rfl, hgl, _⟩ := hWL.2 (by omega)
        obtain ⟨x, hx⟩ : ∃ x, r.wraps[k]? = some x := ⟨_, List.getElem?_eq_getElem (by rw [hWL.1]; exact hlt)⟩
        obtain ⟨_, h0, h1⟩ := wl_of hWL hx
        have HWL := Lib.hid hWL
        have Hx := Lib.hid hx
        have Hlt := Lib.hid hlt
        clear hWL hx hlt hk
        go_upto_region 7 with fail
        obtain ⟨W4, hW4⟩ : ∃ W4, wr.alloc (.cells #[.int .i64 x.d, .string x.box] 58) = W4 := ⟨_, rfl⟩
        have hb4 : WAt W4 wr.heap.size 0 x := by rw [← hW4]; exact wbox
        have hs4 : wr.heap.size < W4.heap.size := by rw [← hW4]; simp
        have g4 : wr.grownBy W4 none := by rw [← hW4]; exact gb_alloc (gb_refl _ _) _
        have HR : Hid (∀ W, W4.grownBy W none → WAt W wr.heap.size 0 x) := fun W hW => hb4.kept hs4 hW (by simp)
        have HWL4 : Hid (WL W4 (some ⟨g, o, none⟩) n r.wraps) := HWL.out.keep g4
        have Hg4 : Hid (W0.grownBy W4 none) := gb_none hg g4
        rw [hW4]
        clear hW4 hb4 hs4 g4 h0 h1 hgl hg y4
        generalize wr.heap.size = D4 at *
        by_cases ho : 0 ≤ x.d
        · have s3 : decide (x.d < 0) = false := decide_eq_false (by omega)
          by_cases ho2 : x.d < 8
          · have s4 : decide (8 ≤ x.d) = false := decide_eq_false (by omega)
            by_cases hs : x.box.size ≤ 200
            · have s1 : decide (200 < x.box.size) = false := decide_eq_false (by omega)
              have s2 : decide ((200 : Int) < (x.box.size : Int)) = false := decide_eq_false (by omega)
              have Hod : Hid (RightW x) := ⟨ho, ho2, hs⟩
              clear ho ho2 hs
              rcases k with _ | j
              · have HN : Hid (WrapsOk (r.wraps.take (0 + 1))) := wraps_next HK.out Hx.out Hod.out (fun j z e _ => (by cases e))
                apply wp_region_told (le := fun a b => a.grownBy b none) [isV _, isV _, isV _, isV _, isV _, isV _, isV _, isV _, isV _, isV _, isV _, isV _, isV _, isV _, isV _, isV _, isV _, isV _, isV _, isV _, isV _, isV _, isV _, isV _, isV _, isV _, isV _, isV _, isV _, isV _]
                case hn => rfl
                case hm => kernel_rfl
                case hB => kernel_rfl
                case ht => exact fun _ _ _ h k => gb_none h k
                case hw => exact gb_drew (gb_refl _ _)
                -- 0: ref.go:40 fieldAddr
                apply told_is
                · intro W f hW hE h0 K hK
                  have e4 := h0 4 (by kernel_rfl)
                  conv at e4 => rhs; whnf
                  clear hE h0
                  refine yes_of (want_free rfl) ?_
                  go_simp; exact hK _ _ (gb_refl _ _) rfl
                -- 1: ref.go:40 load
                apply told_is
                · intro W f hW hE h0 K hK
                  have e72 : f 72 = _ := hE 0 72 _ rfl (by kernel_rfl)
                  clear hE h0
                  refine yes_of (want_free rfl) ?_
                  obtain ⟨hc0, hc1⟩ := HR.out W hW
                  go_simp; exact hK _ _ (gb_refl _ _) rfl
                -- 2: ref.go:40 binOp
                apply told_is
                · intro W f hW hE h0 K hK
                  have e73 : f 73 = _ := hE 0 73 _ rfl (by kernel_rfl)
                  clear hE h0
                  refine yes_of (want_free rfl) ?_
                  go_simp; exact hK _ _ (gb_refl _ _) rfl
                -- 3: ref.go:40 move
                apply told_is
                · intro W f hW hE h0 K hK
                  have e74 : f 74 = _ := hE 0 74 _ rfl (by kernel_rfl)
                  clear hE h0
                  refine yes_of (want_free rfl) ?_
                  go_simp; exact hK _ _ (gb_refl _ _) rfl
                -- 4: ref.go:40 fieldAddr
                apply told_is
                · intro W f hW hE h0 K hK
                  have e4 := h0 4 (by kernel_rfl)
                  conv at e4 => rhs; whnf
                  have e75 : f 75 = _ := hE 0 75 _ rfl (by kernel_rfl)
                  clear hE h0
                  refine yes_of (want_yes rfl rfl e75) ?_
                  go_simp; exact hK _ _ (gb_refl _ _) rfl
                -- 5: ref.go:40 load
                apply told_is
                · intro W f hW hE h0 K hK
                  have e76 : f 76 = _ := hE 0 76 _ rfl (by kernel_rfl)
                  have e75 : f 75 = _ := hE 1 75 _ rfl (by kernel_rfl)
                  clear hE h0
                  refine yes_of (want_yes rfl rfl e75) ?_
                  obtain ⟨hc0, hc1⟩ := HR.out W hW
                  go_simp; exact hK _ _ (gb_refl _ _) rfl
                -- 6: ref.go:40 binOp
                apply told_is
                · intro W f hW hE h0 K hK
                  have e77 : f 77 = _ := hE 0 77 _ rfl (by kernel_rfl)
                  have e75 : f 75 = _ := hE 2 75 _ rfl (by kernel_rfl)
                  clear hE h0
                  refine yes_of (want_yes rfl rfl e75) ?_
                  go_simp; exact hK _ _ (gb_refl _ _) rfl
                -- 7: ref.go:40 pick
                apply told_is
                · intro W f hW hE h0 K hK
                  have e75 : f 75 = _ := hE 3 75 _ rfl (by kernel_rfl)
                  have e78 : f 78 = _ := hE 0 78 _ rfl (by kernel_rfl)
                  clear hE h0
                  refine yes_of (want_free rfl) ?_
                  go_simp; exact hK _ _ (gb_refl _ _) rfl
                -- 8: ref.go:40 move
                apply told_is
                · intro W f hW hE h0 K hK
                  have e79 : f 79 = _ := hE 0 79 _ rfl (by kernel_rfl)
                  clear hE h0
                  refine yes_of (want_free rfl) ?_
                  go_simp; exact hK _ _ (gb_refl _ _) rfl
                -- 9: ref.go:40 fieldAddr
                apply told_is
                · intro W f hW hE h0 K hK
                  have e4 := h0 4 (by kernel_rfl)
                  conv at e4 => rhs; whnf
                  have e80 : f 80 = _ := hE 0 80 _ rfl (by kernel_rfl)
                  clear hE h0
                  refine yes_of (want_yes rfl rfl e80) ?_
                  go_simp; exact hK _ _ (gb_refl _ _) rfl
                -- 10: ref.go:40 load
                apply told_is
                · intro W f hW hE h0 K hK
                  have e81 : f 81 = _ := hE 0 81 _ rfl (by kernel_rfl)
                  have e80 : f 80 = _ := hE 1 80 _ rfl (by kernel_rfl)
                  clear hE h0
                  refine yes_of (want_yes rfl rfl e80) ?_
                  obtain ⟨hc0, hc1⟩ := HR.out W hW
                  go_simp; exact hK _ _ (gb_refl _ _) rfl
                -- 11: ref.go:40 call
                apply told_is
                · intro W f hW hE h0 K hK
                  have e82 : f 82 = _ := hE 0 82 _ rfl (by kernel_rfl)
                  have e80 : f 80 = _ := hE 2 80 _ rfl (by kernel_rfl)
                  clear hE h0
                  refine yes_of (want_yes rfl rfl e80) ?_
                  go_simp; exact hK _ _ (gb_refl _ _) rfl
                -- 12: ref.go:40 binOp
                apply told_is
                · intro W f hW hE h0 K hK
                  have e83 : f 83 = _ := hE 0 83 _ rfl (by kernel_rfl)
                  have e80 : f 80 = _ := hE 3 80 _ rfl (by kernel_rfl)
                  clear hE h0
                  refine yes_of (want_yes rfl rfl e80) ?_
                  go_simp; exact hK _ _ (gb_refl _ _) rfl
                -- 13: ref.go:40 pick
                apply told_is
                · intro W f hW hE h0 K hK
                  have e80 : f 80 = _ := hE 4 80 _ rfl (by kernel_rfl)
                  have e84 : f 84 = _ := hE 0 84 _ rfl (by kernel_rfl)
                  clear hE h0
                  refine yes_of (want_free rfl) ?_
                  go_simp; exact hK _ _ (gb_refl _ _) rfl
                -- 14: ref.go:40 move
                apply told_is
                · intro W f hW hE h0 K hK
                  have e85 : f 85 = _ := hE 0 85 _ rfl (by kernel_rfl)
                  clear hE h0
                  refine yes_of (want_free rfl) ?_
                  go_simp; exact hK _ _ (gb_refl _ _) rfl
                -- 15: ref.go:40 move
                apply told_is
                · intro W f hW hE h0 K hK
                  have e3 := h0 3 (by kernel_rfl)
                  conv at e3 => rhs; whnf
                  have e86 : f 86 = _ := hE 0 86 _ rfl (by kernel_rfl)
                  clear hE h0
                  refine yes_of (want_yes rfl rfl e86) ?_
                  go_simp; exact hK _ _ (gb_refl _ _) rfl
                -- 16: ref.go:40 binOp
                apply told_is
                · intro W f hW hE h0 K hK
                  have e87 : f 87 = _ := hE 0 87 _ rfl (by kernel_rfl)
                  have e86 : f 86 = _ := hE 1 86 _ rfl (by kernel_rfl)
                  clear hE h0
                  refine yes_of (want_yes rfl rfl e86) ?_
                  go_simp; exact hK _ _ (gb_refl _ _) rfl
                -- 17: ref.go:40 move
                apply told_is
                · intro W f hW hE h0 K hK
                  have e88 : f 88 = _ := hE 0 88 _ rfl (by kernel_rfl)
                  have e86 : f 86 = _ := hE 2 86 _ rfl (by kernel_rfl)
                  clear hE h0
                  refine yes_of (want_yes rfl rfl e86) ?_
                  go_simp; exact hK _ _ (gb_refl _ _) rfl
                -- 18: ref.go:40 fieldAddr
                apply told_is
                · intro W f hW hE h0 K hK
                  have e89 : f 89 = _ := hE 0 89 _ rfl (by kernel_rfl)
                  clear hE h0
                  refine no_of (want_no rfl rfl e89 rfl) ?_
                  exact hK _ _ (gb_refl _ _) rfl
                -- 19: ref.go:40 load
                apply told_is
                · intro W f hW hE h0 K hK
                  have e89 : f 89 = _ := hE 1 89 _ rfl (by kernel_rfl)
                  clear hE h0
                  refine no_of (want_no rfl rfl e89 rfl) ?_
                  exact hK _ _ (gb_refl _ _) rfl
                -- 20: ref.go:40 move
                apply told_is
                · intro W f hW hE h0 K hK
                  have e89 : f 89 = _ := hE 2 89 _ rfl (by kernel_rfl)
                  clear hE h0
                  refine no_of (want_no rfl rfl e89 rfl) ?_
                  exact hK _ _ (gb_refl _ _) rfl
                -- 21: ref.go:40 binOp
                apply told_is
                · intro W f hW hE h0 K hK
                  have e89 : f 89 = _ := hE 3 89 _ rfl (by kernel_rfl)
                  clear hE h0
                  refine no_of (want_no rfl rfl e89 rfl) ?_
                  exact hK _ _ (gb_refl _ _) rfl
                -- 22: ref.go:40 indexAddr
                apply told_is
                · intro W f hW hE h0 K hK
                  have e89 : f 89 = _ := hE 4 89 _ rfl (by kernel_rfl)
                  clear hE h0
                  refine no_of (want_no rfl rfl e89 rfl) ?_
                  exact hK _ _ (gb_refl _ _) rfl
                -- 23: ref.go:40 fieldAddr
                apply told_is
                · intro W f hW hE h0 K hK
                  have e89 : f 89 = _ := hE 5 89 _ rfl (by kernel_rfl)
                  clear hE h0
                  refine no_of (want_no rfl rfl e89 rfl) ?_
                  exact hK _ _ (gb_refl _ _) rfl
                -- 24: ref.go:40 load
                apply told_is
                · intro W f hW hE h0 K hK
                  have e89 : f 89 = _ := hE 6 89 _ rfl (by kernel_rfl)
                  clear hE h0
                  refine no_of (want_no rfl rfl e89 rfl) ?_
                  exact hK _ _ (gb_refl _ _) rfl
                -- 25: ref.go:40 fieldAddr
                apply told_is
                · intro W f hW hE h0 K hK
                  have e89 : f 89 = _ := hE 7 89 _ rfl (by kernel_rfl)
                  clear hE h0
                  refine no_of (want_no rfl rfl e89 rfl) ?_
                  exact hK _ _ (gb_refl _ _) rfl
                -- 26: ref.go:40 load
                apply told_is
                · intro W f hW hE h0 K hK
                  have e89 : f 89 = _ := hE 8 89 _ rfl (by kernel_rfl)
                  clear hE h0
                  refine no_of (want_no rfl rfl e89 rfl) ?_
                  exact hK _ _ (gb_refl _ _) rfl
                -- 27: ref.go:40 binOp
                apply told_is
                · intro W f hW hE h0 K hK
                  have e89 : f 89 = _ := hE 9 89 _ rfl (by kernel_rfl)
                  clear hE h0
                  refine no_of (want_no rfl rfl e89 rfl) ?_
                  exact hK _ _ (gb_refl _ _) rfl
                -- 28: ref.go:40 pick
                apply told_is
                · intro W f hW hE h0 K hK
                  have e89 : f 89 = _ := hE 10 89 _ rfl (by kernel_rfl)
                  have e99 : f 99 = _ := hE 0 99 _ rfl (by kernel_rfl)
                  have e86 : f 86 = _ := hE 13 86 _ rfl (by kernel_rfl)
                  clear hE h0
                  refine yes_of (want_yes rfl rfl e86) ?_
                  go_simp; exact hK _ _ (gb_refl _ _) rfl
                -- 29: ref.go:40 pick
                apply told_is
                · intro W f hW hE h0 K hK
                  have e86 : f 86 = _ := hE 14 86 _ rfl (by kernel_rfl)
                  have e100 : f 100 = _ := hE 0 100 _ rfl (by kernel_rfl)
                  clear hE h0
                  refine yes_of (want_free rfl) ?_
                  go_simp; exact hK _ _ (gb_refl _ _) rfl
                intro W f hW hA
                simp only [lexIn, Act.put, List.setIfInBounds_toArray, List.set_cons_zero, List.set_cons_succ]
                have e101 : f 101 = _ := hA 0 (some 101) _ rfl
                rw [e101]
                clear hA
                have Hw := Lib.hid hW
                clear hW
                have b9 := Hlt.out
                have b8 := Hn.out
                go_wp2_with fail
                go_roundw
                case rel => exact ⟨0 + 1, by have := Hlt.out; omega, by go_num, HN.out, gb_none Hg4.out Hw.out⟩
                case measure => simp [intOf]; have := Hlt.out; omega
              · obtain ⟨z, hz⟩ : ∃ z, r.wraps[j]? = some z := ⟨_, List.getElem?_eq_getElem (by have := HWL4.out.1; have := Hlt.out; omega)⟩
                have HZ : Hid (∀ W, W4.grownBy W none → WAt W g (o + j * 2) z) := fun W hW => (wl_of HWL4.out hz).2.kept (wl_of HWL4.out hz).1 hW (by simp)
                have Hz := Lib.hid hz
                have z1 : ((j + 1 : Nat) : Int) - 1 = (j : Int) := by omega
                have z2 : (j : Int) < (n : Int) := by have := Hlt.out; omega
                have z3 : IntKind.i64.wrap (((j + 1 : Nat) : Int) - 1) = (j : Int) := by rw [IntKind.wrap_i64]; have := Hlt.out; have := Hn.out; omega
                have z5 : IntKind.i64.wrap (j : Int) = (j : Int) := by rw [IntKind.wrap_i64]; have := Hlt.out; have := Hn.out; omega
                have z4 : decide (0 < j + 1) = true := by simp
                clear hz
                by_cases hzx : z.d < x.d
                · have v1 : decide (x.d ≤ z.d) = false := decide_eq_false (by omega)
                  have HN : Hid (WrapsOk (r.wraps.take (j + 1 + 1))) := wraps_next HK.out Hx.out Hod.out (at_last Hz.out hzx)
                  clear hzx
                  apply wp_region_told (le := fun a b => a.grownBy b none) [isV _, isV _, isV _, isV _, isV _, isV _, isV _, isV _, isV _, isV _, isV _, isV _, isV _, isV _, isV _, isV _, isV _, isV _, isV _, isV _, isV _, isV _, isV _, isV _, isV _, isV _, isV _, isV _, isV _, isV _]
                  case hn => rfl
                  case hm => kernel_rfl
                  case hB => kernel_rfl
                  case ht => exact fun _ _ _ h k => gb_none h k
                  case hw => exact gb_drew (gb_refl _ _)
                  -- 0: ref.go:40 fieldAddr
                  apply told_is
                  · intro W f hW hE h0 K hK
                    have e4 := h0 4 (by kernel_rfl)
                    conv at e4 => rhs; whnf
                    clear hE h0
                    refine yes_of (want_free rfl) ?_
                    go_simp; exact hK _ _ (gb_refl _ _) rfl
                  -- 1: ref.go:40 load
                  apply told_is
                  · intro W f hW hE h0 K hK
                    have e72 : f 72 = _ := hE 0 72 _ rfl (by kernel_rfl)
                    clear hE h0
                    refine yes_of (want_free rfl) ?_
                    obtain ⟨hc0, hc1⟩ := HR.out W hW
                    go_simp; exact hK _ _ (gb_refl _ _) rfl
                  -- 2: ref.go:40 binOp
                  apply told_is
                  · intro W f hW hE h0 K hK
                    have e73 : f 73 = _ := hE 0 73 _ rfl (by kernel_rfl)
                    clear hE h0
                    refine yes_of (want_free rfl) ?_
                    go_simp; exact hK _ _ (gb_refl _ _) rfl
                  -- 3: ref.go:40 move
                  apply told_is
                  · intro W f hW hE h0 K hK
                    have e74 : f 74 = _ := hE 0 74 _ rfl (by kernel_rfl)
                    clear hE h0
                    refine yes_of (want_free rfl) ?_
                    go_simp; exact hK _ _ (gb_refl _ _) rfl
                  -- 4: ref.go:40 fieldAddr
                  apply told_is
                  · intro W f hW hE h0 K hK
                    have e4 := h0 4 (by kernel_rfl)
                    conv at e4 => rhs; whnf
                    have e75 : f 75 = _ := hE 0 75 _ rfl (by kernel_rfl)
                    clear hE h0
                    refine yes_of (want_yes rfl rfl e75) ?_
                    go_simp; exact hK _ _ (gb_refl _ _) rfl
                  -- 5: ref.go:40 load
                  apply told_is
                  · intro W f hW hE h0 K hK
                    have e76 : f 76 = _ := hE 0 76 _ rfl (by kernel_rfl)
                    have e75 : f 75 = _ := hE 1 75 _ rfl (by kernel_rfl)
                    clear hE h0
                    refine yes_of (want_yes rfl rfl e75) ?_
                    obtain ⟨hc0, hc1⟩ := HR.out W hW
                    go_simp; exact hK _ _ (gb_refl _ _) rfl
                  -- 6: ref.go:40 binOp
                  apply told_is
                  · intro W f hW hE h0 K hK
                    have e77 : f 77 = _ := hE 0 77 _ rfl (by kernel_rfl)
                    have e75 : f 75 = _ := hE 2 75 _ rfl (by kernel_rfl)
                    clear hE h0
                    refine yes_of (want_yes rfl rfl e75) ?_
                    go_simp; exact hK _ _ (gb_refl _ _) rfl
                  -- 7: ref.go:40 pick
                  apply told_is
                  · intro W f hW hE h0 K hK
                    have e75 : f 75 = _ := hE 3 75 _ rfl (by kernel_rfl)
                    have e78 : f 78 = _ := hE 0 78 _ rfl (by kernel_rfl)
                    clear hE h0
                    refine yes_of (want_free rfl) ?_
                    go_simp; exact hK _ _ (gb_refl _ _) rfl
                  -- 8: ref.go:40 move
                  apply told_is
                  · intro W f hW hE h0 K hK
                    have e79 : f 79 = _ := hE 0 79 _ rfl (by kernel_rfl)
                    clear hE h0
                    refine yes_of (want_free rfl) ?_
                    go_simp; exact hK _ _ (gb_refl _ _) rfl
                  -- 9: ref.go:40 fieldAddr
                  apply told_is
                  · intro W f hW hE h0 K hK
                    have e4 := h0 4 (by kernel_rfl)
                    conv at e4 => rhs; whnf
                    have e80 : f 80 = _ := hE 0 80 _ rfl (by kernel_rfl)
                    clear hE h0
                    refine yes_of (want_yes rfl rfl e80) ?_
                    go_simp; exact hK _ _ (gb_refl _ _) rfl
                  -- 10: ref.go:40 load
                  apply told_is
                  · intro W f hW hE h0 K hK
                    have e81 : f 81 = _ := hE 0 81 _ rfl (by kernel_rfl)
                    have e80 : f 80 = _ := hE 1 80 _ rfl (by kernel_rfl)
                    clear hE h0
                    refine yes_of (want_yes rfl rfl e80) ?_
                    obtain ⟨hc0, hc1⟩ := HR.out W hW
                    go_simp; exact hK _ _ (gb_refl _ _) rfl
                  -- 11: ref.go:40 call
                  apply told_is
                  · intro W f hW hE h0 K hK
                    have e82 : f 82 = _ := hE 0 82 _ rfl (by kernel_rfl)
                    have e80 : f 80 = _ := hE 2 80 _ rfl (by kernel_rfl)
                    clear hE h0
                    refine yes_of (want_yes rfl rfl e80) ?_
                    go_simp; exact hK _ _ (gb_refl _ _) rfl
                  -- 12: ref.go:40 binOp
                  apply told_is
                  · intro W f hW hE h0 K hK
                    have e83 : f 83 = _ := hE 0 83 _ rfl (by kernel_rfl)
                    have e80 : f 80 = _ := hE 3 80 _ rfl (by kernel_rfl)
                    clear hE h0
                    refine yes_of (want_yes rfl rfl e80) ?_
                    go_simp; exact hK _ _ (gb_refl _ _) rfl
                  -- 13: ref.go:40 pick
                  apply told_is
                  · intro W f hW hE h0 K hK
                    have e80 : f 80 = _ := hE 4 80 _ rfl (by kernel_rfl)
                    have e84 : f 84 = _ := hE 0 84 _ rfl (by kernel_rfl)
                    clear hE h0
                    refine yes_of (want_free rfl) ?_
                    go_simp; exact hK _ _ (gb_refl _ _) rfl
                  -- 14: ref.go:40 move
                  apply told_is
                  · intro W f hW hE h0 K hK
                    have e85 : f 85 = _ := hE 0 85 _ rfl (by kernel_rfl)
                    clear hE h0
                    refine yes_of (want_free rfl) ?_
                    go_simp; exact hK _ _ (gb_refl _ _) rfl
                  -- 15: ref.go:40 move
                  apply told_is
                  · intro W f hW hE h0 K hK
                    have e3 := h0 3 (by kernel_rfl)
                    conv at e3 => rhs; whnf
                    have e86 : f 86 = _ := hE 0 86 _ rfl (by kernel_rfl)
                    clear hE h0
                    refine yes_of (want_yes rfl rfl e86) ?_
                    go_simp; exact hK _ _ (gb_refl _ _) rfl
                  -- 16: ref.go:40 binOp
                  apply told_is
                  · intro W f hW hE h0 K hK
                    have e87 : f 87 = _ := hE 0 87 _ rfl (by kernel_rfl)
                    have e86 : f 86 = _ := hE 1 86 _ rfl (by kernel_rfl)
                    clear hE h0
                    refine yes_of (want_yes rfl rfl e86) ?_
                    go_simp; exact hK _ _ (gb_refl _ _) rfl
                  -- 17: ref.go:40 move
                  apply told_is
                  · intro W f hW hE h0 K hK
                    have e88 : f 88 = _ := hE 0 88 _ rfl (by kernel_rfl)
                    have e86 : f 86 = _ := hE 2 86 _ rfl (by kernel_rfl)
                    clear hE h0
                    refine yes_of (want_yes rfl rfl e86) ?_
                    go_simp; exact hK _ _ (gb_refl _ _) rfl
                  -- 18: ref.go:40 fieldAddr
                  apply told_is
                  · intro W f hW hE h0 K hK
                    have e1 := h0 1 (by kernel_rfl)
                    conv at e1 => rhs; whnf
                    have e89 : f 89 = _ := hE 0 89 _ rfl (by kernel_rfl)
                    clear hE h0
                    refine yes_of (want_yes rfl rfl e89) ?_
                    go_simp; exact hK _ _ (gb_refl _ _) rfl
                  -- 19: ref.go:40 load
                  apply told_is
                  · intro W f hW hE h0 K hK
                    have e90 : f 90 = _ := hE 0 90 _ rfl (by kernel_rfl)
                    have e89 : f 89 = _ := hE 1 89 _ rfl (by kernel_rfl)
                    clear hE h0
                    refine yes_of (want_yes rfl rfl e89) ?_
                    obtain ⟨⟨_, _, _, _, hy4, _⟩, _⟩ := HX.out W (gb_none Hg4.out hW)
                    rw [Hnn.out] at hy4
                    go_simp; exact hK _ _ (gb_refl _ _) rfl
                  -- 20: ref.go:40 move
                  apply told_is
                  · intro W f hW hE h0 K hK
                    have e3 := h0 3 (by kernel_rfl)
                    conv at e3 => rhs; whnf
                    have e89 : f 89 = _ := hE 2 89 _ rfl (by kernel_rfl)
                    clear hE h0
                    refine yes_of (want_yes rfl rfl e89) ?_
                    go_simp; exact hK _ _ (gb_refl _ _) rfl
                  -- 21: ref.go:40 binOp
                  apply told_is
                  · intro W f hW hE h0 K hK
                    have e92 : f 92 = _ := hE 0 92 _ rfl (by kernel_rfl)
                    have e89 : f 89 = _ := hE 3 89 _ rfl (by kernel_rfl)
                    clear hE h0
                    refine yes_of (want_yes rfl rfl e89) ?_
                    go_simp; exact hK _ _ (gb_refl _ _) rfl
                  -- 22: ref.go:40 indexAddr
                  apply told_is
                  · intro W f hW hE h0 K hK
                    have e91 : f 91 = _ := hE 2 91 _ rfl (by kernel_rfl)
                    have e93 : f 93 = _ := hE 0 93 _ rfl (by kernel_rfl)
                    have e89 : f 89 = _ := hE 4 89 _ rfl (by kernel_rfl)
                    clear hE h0
                    refine yes_of (want_yes rfl rfl e89) ?_
                    go_simp; exact hK _ _ (gb_refl _ _) rfl
                  -- 23: ref.go:40 fieldAddr
                  apply told_is
                  · intro W f hW hE h0 K hK
                    have e94 : f 94 = _ := hE 0 94 _ rfl (by kernel_rfl)
                    have e89 : f 89 = _ := hE 5 89 _ rfl (by kernel_rfl)
                    clear hE h0
                    refine yes_of (want_yes rfl rfl e89) ?_
                    go_simp; exact hK _ _ (gb_refl _ _) rfl
                  -- 24: ref.go:40 load
                  apply told_is
                  · intro W f hW hE h0 K hK
                    have e95 : f 95 = _ := hE 0 95 _ rfl (by kernel_rfl)
                    have e89 : f 89 = _ := hE 6 89 _ rfl (by kernel_rfl)
                    clear hE h0
                    refine yes_of (want_yes rfl rfl e89) ?_
                    obtain ⟨hc0, hc1⟩ := HZ.out W hW
                    go_simp; exact hK _ _ (gb_refl _ _) rfl
                  -- 25: ref.go:40 fieldAddr
                  apply told_is
                  · intro W f hW hE h0 K hK
                    have e4 := h0 4 (by kernel_rfl)
                    conv at e4 => rhs; whnf
                    have e89 : f 89 = _ := hE 7 89 _ rfl (by kernel_rfl)
                    clear hE h0
                    refine yes_of (want_yes rfl rfl e89) ?_
                    go_simp; exact hK _ _ (gb_refl _ _) rfl
                  -- 26: ref.go:40 load
                  apply told_is
                  · intro W f hW hE h0 K hK
                    have e97 : f 97 = _ := hE 0 97 _ rfl (by kernel_rfl)
                    have e89 : f 89 = _ := hE 8 89 _ rfl (by kernel_rfl)
                    clear hE h0
                    refine yes_of (want_yes rfl rfl e89) ?_
                    obtain ⟨hc0, hc1⟩ := HR.out W hW
                    go_simp; exact hK _ _ (gb_refl _ _) rfl
                  -- 27: ref.go:40 binOp
                  apply told_is
                  · intro W f hW hE h0 K hK
                    have e96 : f 96 = _ := hE 2 96 _ rfl (by kernel_rfl)
                    have e98 : f 98 = _ := hE 0 98 _ rfl (by kernel_rfl)
                    have e89 : f 89 = _ := hE 9 89 _ rfl (by kernel_rfl)
                    clear hE h0
                    refine yes_of (want_yes rfl rfl e89) ?_
                    go_simp; exact hK _ _ (gb_refl _ _) rfl
                  -- 28: ref.go:40 pick
                  apply told_is
                  · intro W f hW hE h0 K hK
                    have e89 : f 89 = _ := hE 10 89 _ rfl (by kernel_rfl)
                    have e99 : f 99 = _ := hE 0 99 _ rfl (by kernel_rfl)
                    have e86 : f 86 = _ := hE 13 86 _ rfl (by kernel_rfl)
                    clear hE h0
                    refine yes_of (want_yes rfl rfl e86) ?_
                    go_simp; exact hK _ _ (gb_refl _ _) rfl
                  -- 29: ref.go:40 pick
                  apply told_is
                  · intro W f hW hE h0 K hK
                    have e86 : f 86 = _ := hE 14 86 _ rfl (by kernel_rfl)
                    have e100 : f 100 = _ := hE 0 100 _ rfl (by kernel_rfl)
                    clear hE h0
                    refine yes_of (want_free rfl) ?_
                    go_simp; exact hK _ _ (gb_refl _ _) rfl
                  intro W f hW hA
                  simp only [lexIn, Act.put, List.setIfInBounds_toArray, List.set_cons_zero, List.set_cons_succ]
                  have e101 : f 101 = _ := hA 0 (some 101) _ rfl
                  rw [e101]
                  clear hA
                  have Hw := Lib.hid hW
                  clear hW
                  have b9 := Hlt.out
                  have b8 := Hn.out
                  go_wp2_with fail
                  go_roundw
                  case rel => exact ⟨(j + 1) + 1, by have := Hlt.out; omega, by go_num, HN.out, gb_none Hg4.out Hw.out⟩
                  case measure => simp [intOf]; have := Hlt.out; omega
                · have v1 : decide (x.d ≤ z.d) = true := decide_eq_true (by omega)
                  have HF : Hid (¬ WrapsOk r.wraps) := wraps_fall Hz.out Hx.out (by omega)
                  clear hzx
                  apply wp_region_told (le := fun a b => a.grownBy b none) [isV _, isV _, isV _, isV _, isV _, isV _, isV _, isV _, isV _, isV _, isV _, isV _, isV _, isV _, isV _, isV _, isV _, isV _, isV _, isV _, isV _, isV _, isV _, isV _, isV _, isV _, isV _, isV _, isV _, isV _]
                  case hn => rfl
                  case hm => kernel_rfl
                  case hB => kernel_rfl
                  case ht => exact fun _ _ _ h k => gb_none h k
                  case hw => exact gb_drew (gb_refl _ _)
                  -- 0: ref.go:40 fieldAddr
                  apply told_is
                  · intro W f hW hE h0 K hK
                    have e4 := h0 4 (by kernel_rfl)
                    conv at e4 => rhs; whnf
                    clear hE h0
                    refine yes_of (want_free rfl) ?_
                    go_simp; exact hK _ _ (gb_refl _ _) rfl
                  -- 1: ref.go:40 load
                  apply told_is
                  · intro W f hW hE h0 K hK
                    have e72 : f 72 = _ := hE 0 72 _ rfl (by kernel_rfl)
                    clear hE h0
                    refine yes_of (want_free rfl) ?_
                    obtain ⟨hc0, hc1⟩ := HR.out W hW
                    go_simp; exact hK _ _ (gb_refl _ _) rfl
                  -- 2: ref.go:40 binOp
                  apply told_is
                  · intro W f hW hE h0 K hK
                    have e73 : f 73 = _ := hE 0 73 _ rfl (by kernel_rfl)
                    clear hE h0
                    refine yes_of (want_free rfl) ?_
                    go_simp; exact hK _ _ (gb_refl _ _) rfl
                  -- 3: ref.go:40 move
                  apply told_is
                  · intro W f hW hE h0 K hK
                    have e74 : f 74 = _ := hE 0 74 _ rfl (by kernel_rfl)
                    clear hE h0
                    refine yes_of (want_free rfl) ?_
                    go_simp; exact hK _ _ (gb_refl _ _) rfl
                  -- 4: ref.go:40 fieldAddr
                  apply told_is
                  · intro W f hW hE h0 K hK
                    have e4 := h0 4 (by kernel_rfl)
                    conv at e4 => rhs; whnf
                    have e75 : f 75 = _ := hE 0 75 _ rfl (by kernel_rfl)
                    clear hE h0
                    refine yes_of (want_yes rfl rfl e75) ?_
                    go_simp; exact hK _ _ (gb_refl _ _) rfl
                  -- 5: ref.go:40 load
                  apply told_is
                  · intro W f hW hE h0 K hK
                    have e76 : f 76 = _ := hE 0 76 _ rfl (by kernel_rfl)
                    have e75 : f 75 = _ := hE 1 75 _ rfl (by kernel_rfl)
                    clear hE h0
                    refine yes_of (want_yes rfl rfl e75) ?_
                    obtain ⟨hc0, hc1⟩ := HR.out W hW
                    go_simp; exact hK _ _ (gb_refl _ _) rfl
                  -- 6: ref.go:40 binOp
                  apply told_is
                  · intro W f hW hE h0 K hK
                    have e77 : f 77 = _ := hE 0 77 _ rfl (by kernel_rfl)
                    have e75 : f 75 = _ := hE 2 75 _ rfl (by kernel_rfl)
                    clear hE h0
                    refine yes_of (want_yes rfl rfl e75) ?_
                    go_simp; exact hK _ _ (gb_refl _ _) rfl
                  -- 7: ref.go:40 pick
                  apply told_is
                  · intro W f hW hE h0 K hK
                    have e75 : f 75 = _ := hE 3 75 _ rfl (by kernel_rfl)
                    have e78 : f 78 = _ := hE 0 78 _ rfl (by kernel_rfl)
                    clear hE h0
                    refine yes_of (want_free rfl) ?_
                    go_simp; exact hK _ _ (gb_refl _ _) rfl
                  -- 8: ref.go:40 move
                  apply told_is
                  · intro W f hW hE h0 K hK
                    have e79 : f 79 = _ := hE 0 79 _ rfl (by kernel_rfl)
                    clear hE h0
                    refine yes_of (want_free rfl) ?_
                    go_simp; exact hK _ _ (gb_refl _ _) rfl
                  -- 9: ref.go:40 fieldAddr
                  apply told_is
                  · intro W f hW hE h0 K hK
                    have e4 := h0 4 (by kernel_rfl)
                    conv at e4 => rhs; whnf
                    have e80 : f 80 = _ := hE 0 80 _ rfl (by kernel_rfl)
                    clear hE h0
                    refine yes_of (want_yes rfl rfl e80) ?_
                    go_simp; exact hK _ _ (gb_refl _ _) rfl
                  -- 10: ref.go:40 load
                  apply told_is
                  · intro W f hW hE h0 K hK
                    have e81 : f 81 = _ := hE 0 81 _ rfl (by kernel_rfl)
                    have e80 : f 80 = _ := hE 1 80 _ rfl (by kernel_rfl)
                    clear hE h0
                    refine yes_of (want_yes rfl rfl e80) ?_
                    obtain ⟨hc0, hc1⟩ := HR.out W hW
                    go_simp; exact hK _ _ (gb_refl _ _) rfl
                  -- 11: ref.go:40 call
                  apply told_is
                  · intro W f hW hE h0 K hK
                    have e82 : f 82 = _ := hE 0 82 _ rfl (by kernel_rfl)
                    have e80 : f 80 = _ := hE 2 80 _ rfl (by kernel_rfl)
                    clear hE h0
                    refine yes_of (want_yes rfl rfl e80) ?_
                    go_simp; exact hK _ _ (gb_refl _ _) rfl
                  -- 12: ref.go:40 binOp
                  apply told_is
                  · intro W f hW hE h0 K hK
                    have e83 : f 83 = _ := hE 0 83 _ rfl (by kernel_rfl)
                    have e80 : f 80 = _ := hE 3 80 _ rfl (by kernel_rfl)
                    clear hE h0
                    refine yes_of (want_yes rfl rfl e80) ?_
                    go_simp; exact hK _ _ (gb_refl _ _) rfl
                  -- 13: ref.go:40 pick
                  apply told_is
                  · intro W f hW hE h0 K hK
                    have e80 : f 80 = _ := hE 4 80 _ rfl (by kernel_rfl)
                    have e84 : f 84 = _ := hE 0 84 _ rfl (by kernel_rfl)
                    clear hE h0
                    refine yes_of (want_free rfl) ?_
                    go_simp; exact hK _ _ (gb_refl _ _) rfl
                  -- 14: ref.go:40 move
                  apply told_is
                  · intro W f hW hE h0 K hK
                    have e85 : f 85 = _ := hE 0 85 _ rfl (by kernel_rfl)
                    clear hE h0
                    refine yes_of (want_free rfl) ?_
                    go_simp; exact hK _ _ (gb_refl _ _) rfl
                  -- 15: ref.go:40 move
                  apply told_is
                  · intro W f hW hE h0 K hK
                    have e3 := h0 3 (by kernel_rfl)
                    conv at e3 => rhs; whnf
                    have e86 : f 86 = _ := hE 0 86 _ rfl (by kernel_rfl)
                    clear hE h0
                    refine yes_of (want_yes rfl rfl e86) ?_
                    go_simp; exact hK _ _ (gb_refl _ _) rfl
                  -- 16: ref.go:40 binOp
                  apply told_is
                  · intro W f hW hE h0 K hK
                    have e87 : f 87 = _ := hE 0 87 _ rfl (by kernel_rfl)
                    have e86 : f 86 = _ := hE 1 86 _ rfl (by kernel_rfl)
                    clear hE h0
                    refine yes_of (want_yes rfl rfl e86) ?_
                    go_simp; exact hK _ _ (gb_refl _ _) rfl
                  -- 17: ref.go:40 move
                  apply told_is
                  · intro W f hW hE h0 K hK
                    have e88 : f 88 = _ := hE 0 88 _ rfl (by kernel_rfl)
                    have e86 : f 86 = _ := hE 2 86 _ rfl (by kernel_rfl)
                    clear hE h0
                    refine yes_of (want_yes rfl rfl e86) ?_
                    go_simp; exact hK _ _ (gb_refl _ _) rfl
                  -- 18: ref.go:40 fieldAddr
                  apply told_is
                  · intro W f hW hE h0 K hK
                    have e1 := h0 1 (by kernel_rfl)
                    conv at e1 => rhs; whnf
                    have e89 : f 89 = _ := hE 0 89 _ rfl (by kernel_rfl)
                    clear hE h0
                    refine yes_of (want_yes rfl rfl e89) ?_
                    go_simp; exact hK _ _ (gb_refl _ _) rfl
                  -- 19: ref.go:40 load
                  apply told_is
                  · intro W f hW hE h0 K hK
                    have e90 : f 90 = _ := hE 0 90 _ rfl (by kernel_rfl)
                    have e89 : f 89 = _ := hE 1 89 _ rfl (by kernel_rfl)
                    clear hE h0
                    refine yes_of (want_yes rfl rfl e89) ?_
                    obtain ⟨⟨_, _, _, _, hy4, _⟩, _⟩ := HX.out W (gb_none Hg4.out hW)
                    rw [Hnn.out] at hy4
                    go_simp; exact hK _ _ (gb_refl _ _) rfl
                  -- 20: ref.go:40 move
                  apply told_is
                  · intro W f hW hE h0 K hK
                    have e3 := h0 3 (by kernel_rfl)
                    conv at e3 => rhs; whnf
                    have e89 : f 89 = _ := hE 2 89 _ rfl (by kernel_rfl)
                    clear hE h0
                    refine yes_of (want_yes rfl rfl e89) ?_
                    go_simp; exact hK _ _ (gb_refl _ _) rfl
                  -- 21: ref.go:40 binOp
                  apply told_is
                  · intro W f hW hE h0 K hK
                    have e92 : f 92 = _ := hE 0 92 _ rfl (by kernel_rfl)
                    have e89 : f 89 = _ := hE 3 89 _ rfl (by kernel_rfl)
                    clear hE h0
                    refine yes_of (want_yes rfl rfl e89) ?_
                    go_simp; exact hK _ _ (gb_refl _ _) rfl
                  -- 22: ref.go:40 indexAddr
                  apply told_is
                  · intro W f hW hE h0 K hK
                    have e91 : f 91 = _ := hE 2 91 _ rfl (by kernel_rfl)
                    have e93 : f 93 = _ := hE 0 93 _ rfl (by kernel_rfl)
                    have e89 : f 89 = _ := hE 4 89 _ rfl (by kernel_rfl)
                    clear hE h0
                    refine yes_of (want_yes rfl rfl e89) ?_
                    go_simp; exact hK _ _ (gb_refl _ _) rfl
                  -- 23: ref.go:40 fieldAddr
                  apply told_is
                  · intro W f hW hE h0 K hK
                    have e94 : f 94 = _ := hE 0 94 _ rfl (by kernel_rfl)
                    have e89 : f 89 = _ := hE 5 89 _ rfl (by kernel_rfl)
                    clear hE h0
                    refine yes_of (want_yes rfl rfl e89) ?_
                    go_simp; exact hK _ _ (gb_refl _ _) rfl
                  -- 24: ref.go:40 load
                  apply told_is
                  · intro W f hW hE h0 K hK
                    have e95 : f 95 = _ := hE 0 95 _ rfl (by kernel_rfl)
                    have e89 : f 89 = _ := hE 6 89 _ rfl (by kernel_rfl)
                    clear hE h0
                    refine yes_of (want_yes rfl rfl e89) ?_
                    obtain ⟨hc0, hc1⟩ := HZ.out W hW
                    go_simp; exact hK _ _ (gb_refl _ _) rfl
                  -- 25: ref.go:40 fieldAddr
                  apply told_is
                  · intro W f hW hE h0 K hK
                    have e4 := h0 4 (by kernel_rfl)
                    conv at e4 => rhs; whnf
                    have e89 : f 89 = _ := hE 7 89 _ rfl (by kernel_rfl)
                    clear hE h0
                    refine yes_of (want_yes rfl rfl e89) ?_
                    go_simp; exact hK _ _ (gb_refl _ _) rfl
                  -- 26: ref.go:40 load
                  apply told_is
                  · intro W f hW hE h0 K hK
                    have e97 : f 97 = _ := hE 0 97 _ rfl (by kernel_rfl)
                    have e89 : f 89 = _ := hE 8 89 _ rfl (by kernel_rfl)
                    clear hE h0
                    refine yes_of (want_yes rfl rfl e89) ?_
                    obtain ⟨hc0, hc1⟩ := HR.out W hW
                    go_simp; exact hK _ _ (gb_refl _ _) rfl
                  -- 27: ref.go:40 binOp
                  apply told_is
                  · intro W f hW hE h0 K hK
                    have e96 : f 96 = _ := hE 2 96 _ rfl (by kernel_rfl)
                    have e98 : f 98 = _ := hE 0 98 _ rfl (by kernel_rfl)
                    have e89 : f 89 = _ := hE 9 89 _ rfl (by kernel_rfl)
                    clear hE h0
                    refine yes_of (want_yes rfl rfl e89) ?_
                    go_simp; exact hK _ _ (gb_refl _ _) rfl
                  -- 28: ref.go:40 pick
                  apply told_is
                  · intro W f hW hE h0 K hK
                    have e89 : f 89 = _ := hE 10 89 _ rfl (by kernel_rfl)
                    have e99 : f 99 = _ := hE 0 99 _ rfl (by kernel_rfl)
                    have e86 : f 86 = _ := hE 13 86 _ rfl (by kernel_rfl)
                    clear hE h0
                    refine yes_of (want_yes rfl rfl e86) ?_
                    go_simp; exact hK _ _ (gb_refl _ _) rfl
                  -- 29: ref.go:40 pick
                  apply told_is
                  · intro W f hW hE h0 K hK
                    have e86 : f 86 = _ := hE 14 86 _ rfl (by kernel_rfl)
                    have e100 : f 100 = _ := hE 0 100 _ rfl (by kernel_rfl)
                    clear hE h0
                    refine yes_of (want_free rfl) ?_
                    go_simp; exact hK _ _ (gb_refl _ _) rfl
                  intro W f hW hA
                  simp only [lexIn, Act.put, List.setIfInBounds_toArray, List.set_cons_zero, List.set_cons_succ]
                  have e101 : f 101 = _ := hA 0 (some 101) _ rfl
                  rw [e101]
                  clear hA
                  have Hw := Lib.hid hW
                  clear hW
                  go_wp2_with fail
                  go_ret
                  exact .of_no (fun h => HF.out h.2) (gb_none HG.out (gb_none Hg4.out Hw.out))
            · have s1 : decide (200 < x.box.size) = true := decide_eq_true (by omega)
              have s2 : decide ((200 : Int) < (x.box.size : Int)) = true := decide_eq_true (by omega)
              have HF : Hid (¬ WrapsOk r.wraps) := wraps_bad Hx.out (fun h => hs h.2.2)
              clear ho ho2 hs
              apply wp_region_told (le := fun a b => a.grownBy b none) [isV _, isV _, isV _, isV _, isV _, isV _, isV _, isV _, isV _, isV _, isV _, isV _, isV _, isV _, isV _, isV _, isV _, isV _, isV _, isV _, isV _, isV _, isV _, isV _, isV _, isV _, isV _, isV _, isV _, isV _]
              case hn => rfl
              case hm => kernel_rfl
              case hB => kernel_rfl
              case ht => exact fun _ _ _ h k => gb_none h k
              case hw => exact gb_drew (gb_refl _ _)
              -- 0: ref.go:40 fieldAddr
              apply told_is
              · intro W f hW hE h0 K hK
                have e4 := h0 4 (by kernel_rfl)
                conv at e4 => rhs; whnf
                clear hE h0
                refine yes_of (want_free rfl) ?_
                go_simp; exact hK _ _ (gb_refl _ _) rfl
              -- 1: ref.go:40 load
              apply told_is
              · intro W f hW hE h0 K hK
                have e72 : f 72 = _ := hE 0 72 _ rfl (by kernel_rfl)
                clear hE h0
                refine yes_of (want_free rfl) ?_
                obtain ⟨hc0, hc1⟩ := HR.out W hW
                go_simp; exact hK _ _ (gb_refl _ _) rfl
              -- 2: ref.go:40 binOp
              apply told_is
              · intro W f hW hE h0 K hK
                have e73 : f 73 = _ := hE 0 73 _ rfl (by kernel_rfl)
                clear hE h0
                refine yes_of (want_free rfl) ?_
                go_simp; exact hK _ _ (gb_refl _ _) rfl
              -- 3: ref.go:40 move
              apply told_is
              · intro W f hW hE h0 K hK
                have e74 : f 74 = _ := hE 0 74 _ rfl (by kernel_rfl)
                clear hE h0
                refine yes_of (want_free rfl) ?_
                go_simp; exact hK _ _ (gb_refl _ _) rfl
              -- 4: ref.go:40 fieldAddr
              apply told_is
              · intro W f hW hE h0 K hK
                have e4 := h0 4 (by kernel_rfl)
                conv at e4 => rhs; whnf
                have e75 : f 75 = _ := hE 0 75 _ rfl (by kernel_rfl)
                clear hE h0
                refine yes_of (want_yes rfl rfl e75) ?_
                go_simp; exact hK _ _ (gb_refl _ _) rfl
              -- 5: ref.go:40 load
              apply told_is
              · intro W f hW hE h0 K hK
                have e76 : f 76 = _ := hE 0 76 _ rfl (by kernel_rfl)
                have e75 : f 75 = _ := hE 1 75 _ rfl (by kernel_rfl)
                clear hE h0
                refine yes_of (want_yes rfl rfl e75) ?_
                obtain ⟨hc0, hc1⟩ := HR.out W hW
                go_simp; exact hK _ _ (gb_refl _ _) rfl
              -- 6: ref.go:40 binOp
              apply told_is
              · intro W f hW hE h0 K hK
                have e77 : f 77 = _ := hE 0 77 _ rfl (by kernel_rfl)
                have e75 : f 75 = _ := hE 2 75 _ rfl (by kernel_rfl)
                clear hE h0
                refine yes_of (want_yes rfl rfl e75) ?_
                go_simp; exact hK _ _ (gb_refl _ _) rfl
              -- 7: ref.go:40 pick
              apply told_is
              · intro W f hW hE h0 K hK
                have e75 : f 75 = _ := hE 3 75 _ rfl (by kernel_rfl)
                have e78 : f 78 = _ := hE 0 78 _ rfl (by kernel_rfl)
                clear hE h0
                refine yes_of (want_free rfl) ?_
                go_simp; exact hK _ _ (gb_refl _ _) rfl
              -- 8: ref.go:40 move
              apply told_is
              · intro W f hW hE h0 K hK
                have e79 : f 79 = _ := hE 0 79 _ rfl (by kernel_rfl)
                clear hE h0
                refine yes_of (want_free rfl) ?_
                go_simp; exact hK _ _ (gb_refl _ _) rfl
              -- 9: ref.go:40 fieldAddr
              apply told_is
              · intro W f hW hE h0 K hK
                have e4 := h0 4 (by kernel_rfl)
                conv at e4 => rhs; whnf
                have e80 : f 80 = _ := hE 0 80 _ rfl (by kernel_rfl)
                clear hE h0
                refine yes_of (want_yes rfl rfl e80) ?_
                go_simp; exact hK _ _ (gb_refl _ _) rfl
              -- 10: ref.go:40 load
              apply told_is
              · intro W f hW hE h0 K hK
                have e81 : f 81 = _ := hE 0 81 _ rfl (by kernel_rfl)
                have e80 : f 80 = _ := hE 1 80 _ rfl (by kernel_rfl)
                clear hE h0
                refine yes_of (want_yes rfl rfl e80) ?_
                obtain ⟨hc0, hc1⟩ := HR.out W hW
                go_simp; exact hK _ _ (gb_refl _ _) rfl
              -- 11: ref.go:40 call
              apply told_is
              · intro W f hW hE h0 K hK
                have e82 : f 82 = _ := hE 0 82 _ rfl (by kernel_rfl)
                have e80 : f 80 = _ := hE 2 80 _ rfl (by kernel_rfl)
                clear hE h0
                refine yes_of (want_yes rfl rfl e80) ?_
                go_simp; exact hK _ _ (gb_refl _ _) rfl
              -- 12: ref.go:40 binOp
              apply told_is
              · intro W f hW hE h0 K hK
                have e83 : f 83 = _ := hE 0 83 _ rfl (by kernel_rfl)
                have e80 : f 80 = _ := hE 3 80 _ rfl (by kernel_rfl)
                clear hE h0
                refine yes_of (want_yes rfl rfl e80) ?_
                go_simp; exact hK _ _ (gb_refl _ _) rfl
              -- 13: ref.go:40 pick
              apply told_is
              · intro W f hW hE h0 K hK
                have e80 : f 80 = _ := hE 4 80 _ rfl (by kernel_rfl)
                have e84 : f 84 = _ := hE 0 84 _ rfl (by kernel_rfl)
                clear hE h0
                refine yes_of (want_free rfl) ?_
                go_simp; exact hK _ _ (gb_refl _ _) rfl
              -- 14: ref.go:40 move
              apply told_is
              · intro W f hW hE h0 K hK
                have e85 : f 85 = _ := hE 0 85 _ rfl (by kernel_rfl)
                clear hE h0
                refine yes_of (want_free rfl) ?_
                go_simp; exact hK _ _ (gb_refl _ _) rfl
              -- 15: ref.go:40 move
              apply told_is
              · intro W f hW hE h0 K hK
                have e86 : f 86 = _ := hE 0 86 _ rfl (by kernel_rfl)
                clear hE h0
                refine no_of (want_no rfl rfl e86 rfl) ?_
                exact hK _ _ (gb_refl _ _) rfl
              -- 16: ref.go:40 binOp
              apply told_is
              · intro W f hW hE h0 K hK
                have e86 : f 86 = _ := hE 1 86 _ rfl (by kernel_rfl)
                clear hE h0
                refine no_of (want_no rfl rfl e86 rfl) ?_
                exact hK _ _ (gb_refl _ _) rfl
              -- 17: ref.go:40 move
              apply told_is
              · intro W f hW hE h0 K hK
                have e86 : f 86 = _ := hE 2 86 _ rfl (by kernel_rfl)
                clear hE h0
                refine no_of (want_no rfl rfl e86 rfl) ?_
                exact hK _ _ (gb_refl _ _) rfl
              -- 18: ref.go:40 fieldAddr
              apply told_is
              · intro W f hW hE h0 K hK
                have e89 : f 89 = _ := hE 0 89 _ rfl (by kernel_rfl)
                clear hE h0
                refine no_of (want_no rfl rfl e89 rfl) ?_
                exact hK _ _ (gb_refl _ _) rfl
              -- 19: ref.go:40 load
              apply told_is
              · intro W f hW hE h0 K hK
                have e89 : f 89 = _ := hE 1 89 _ rfl (by kernel_rfl)
                clear hE h0
                refine no_of (want_no rfl rfl e89 rfl) ?_
                exact hK _ _ (gb_refl _ _) rfl
              -- 20: ref.go:40 move
              apply told_is
              · intro W f hW hE h0 K hK
                have e89 : f 89 = _ := hE 2 89 _ rfl (by kernel_rfl)
                clear hE h0
                refine no_of (want_no rfl rfl e89 rfl) ?_
                exact hK _ _ (gb_refl _ _) rfl
              -- 21: ref.go:40 binOp
              apply told_is
              · intro W f hW hE h0 K hK
                have e89 : f 89 = _ := hE 3 89 _ rfl (by kernel_rfl)
                clear hE h0
                refine no_of (want_no rfl rfl e89 rfl) ?_
                exact hK _ _ (gb_refl _ _) rfl
              -- 22: ref.go:40 indexAddr
              apply told_is
              · intro W f hW hE h0 K hK
                have e89 : f 89 = _ := hE 4 89 _ rfl (by kernel_rfl)
                clear hE h0
                refine no_of (want_no rfl rfl e89 rfl) ?_
                exact hK _ _ (gb_refl _ _) rfl
              -- 23: ref.go:40 fieldAddr
              apply told_is
              · intro W f hW hE h0 K hK
                have e89 : f 89 = _ := hE 5 89 _ rfl (by kernel_rfl)
                clear hE h0
                refine no_of (want_no rfl rfl e89 rfl) ?_
                exact hK _ _ (gb_refl _ _) rfl
              -- 24: ref.go:40 load
              apply told_is
              · intro W f hW hE h0 K hK
                have e89 : f 89 = _ := hE 6 89 _ rfl (by kernel_rfl)
                clear hE h0
                refine no_of (want_no rfl rfl e89 rfl) ?_
                exact hK _ _ (gb_refl _ _) rfl
              -- 25: ref.go:40 fieldAddr
              apply told_is
              · intro W f hW hE h0 K hK
                have e89 : f 89 = _ := hE 7 89 _ rfl (by kernel_rfl)
                clear hE h0
                refine no_of (want_no rfl rfl e89 rfl) ?_
                exact hK _ _ (gb_refl _ _) rfl
              -- 26: ref.go:40 load
              apply told_is
              · intro W f hW hE h0 K hK
                have e89 : f 89 = _ := hE 8 89 _ rfl (by kernel_rfl)
                clear hE h0
                refine no_of (want_no rfl rfl e89 rfl) ?_
                exact hK _ _ (gb_refl _ _) rfl
              -- 27: ref.go:40 binOp
              apply told_is
              · intro W f hW hE h0 K hK
                have e89 : f 89 = _ := hE 9 89 _ rfl (by kernel_rfl)
                clear hE h0
                refine no_of (want_no rfl rfl e89 rfl) ?_
                exact hK _ _ (gb_refl _ _) rfl
              -- 28: ref.go:40 pick
              apply told_is
              · intro W f hW hE h0 K hK
                have e86 : f 86 = _ := hE 13 86 _ rfl (by kernel_rfl)
                clear hE h0
                refine no_of (want_no rfl rfl e86 rfl) ?_
                exact hK _ _ (gb_refl _ _) rfl
              -- 29: ref.go:40 pick
              apply told_is
              · intro W f hW hE h0 K hK
                have e86 : f 86 = _ := hE 14 86 _ rfl (by kernel_rfl)
                have e100 : f 100 = _ := hE 0 100 _ rfl (by kernel_rfl)
                clear hE h0
                refine yes_of (want_free rfl) ?_
                go_simp; exact hK _ _ (gb_refl _ _) rfl
              intro W f hW hA
              simp only [lexIn, Act.put, List.setIfInBounds_toArray, List.set_cons_zero, List.set_cons_succ]
              have e101 : f 101 = _ := hA 0 (some 101) _ rfl
              rw [e101]
              clear hA
              have Hw := Lib.hid hW
              clear hW
              go_wp2_with fail
              go_ret
              exact .of_no (fun h => HF.out h.2) (gb_none HG.out (gb_none Hg4.out Hw.out))
          · have s4 : decide (8 ≤ x.d) = true := decide_eq_true (by omega)
            have HF : Hid (¬ WrapsOk r.wraps) := wraps_bad Hx.out (fun h => ho2 h.2.1)
            clear ho ho2
            apply wp_region_told (le := fun a b => a.grownBy b none) [isV _, isV _, isV _, isV _, isV _, isV _, isV _, isV _, isV _, isV _, isV _, isV _, isV _, isV _, isV _, isV _, isV _, isV _, isV _, isV _, isV _, isV _, isV _, isV _, isV _, isV _, isV _, isV _, isV _, isV _]
            case hn => rfl
            case hm => kernel_rfl
            case hB => kernel_rfl
            case ht => exact fun _ _ _ h k => gb_none h k
            case hw => exact gb_drew (gb_refl _ _)
            -- 0: ref.go:40 fieldAddr
            apply told_is
            · intro W f hW hE h0 K hK
              have e4 := h0 4 (by kernel_rfl)
              conv at e4 => rhs; whnf
              clear hE h0
              refine yes_of (want_free rfl) ?_
              go_simp; exact hK _ _ (gb_refl _ _) rfl
            -- 1: ref.go:40 load
            apply told_is
            · intro W f hW hE h0 K hK
              have e72 : f 72 = _ := hE 0 72 _ rfl (by kernel_rfl)
              clear hE h0
              refine yes_of (want_free rfl) ?_
              obtain ⟨hc0, hc1⟩ := HR.out W hW
              go_simp; exact hK _ _ (gb_refl _ _) rfl
            -- 2: ref.go:40 binOp
            apply told_is
            · intro W f hW hE h0 K hK
              have e73 : f 73 = _ := hE 0 73 _ rfl (by kernel_rfl)
              clear hE h0
              refine yes_of (want_free rfl) ?_
              go_simp; exact hK _ _ (gb_refl _ _) rfl
            -- 3: ref.go:40 move
            apply told_is
            · intro W f hW hE h0 K hK
              have e74 : f 74 = _ := hE 0 74 _ rfl (by kernel_rfl)
              clear hE h0
              refine yes_of (want_free rfl) ?_
              go_simp; exact hK _ _ (gb_refl _ _) rfl
            -- 4: ref.go:40 fieldAddr
            apply told_is
            · intro W f hW hE h0 K hK
              have e4 := h0 4 (by kernel_rfl)
              conv at e4 => rhs; whnf
              have e75 : f 75 = _ := hE 0 75 _ rfl (by kernel_rfl)
              clear hE h0
              refine yes_of (want_yes rfl rfl e75) ?_
              go_simp; exact hK _ _ (gb_refl _ _) rfl
            -- 5: ref.go:40 load
            apply told_is
            · intro W f hW hE h0 K hK
              have e76 : f 76 = _ := hE 0 76 _ rfl (by kernel_rfl)
              have e75 : f 75 = _ := hE 1 75 _ rfl (by kernel_rfl)
              clear hE h0
              refine yes_of (want_yes rfl rfl e75) ?_
              obtain ⟨hc0, hc1⟩ := HR.out W hW
              go_simp; exact hK _ _ (gb_refl _ _) rfl
            -- 6: ref.go:40 binOp
            apply told_is
            · intro W f hW hE h0 K hK
              have e77 : f 77 = _ := hE 0 77 _ rfl (by kernel_rfl)
              have e75 : f 75 = _ := hE 2 75 _ rfl (by kernel_rfl)
              clear hE h0
              refine yes_of (want_yes rfl rfl e75) ?_
              go_simp; exact hK _ _ (gb_refl _ _) rfl
            -- 7: ref.go:40 pick
            apply told_is
            · intro W f hW hE h0 K hK
              have e75 : f 75 = _ := hE 3 75 _ rfl (by kernel_rfl)
              have e78 : f 78 = _ := hE 0 78 _ rfl (by kernel_rfl)
              clear hE h0
              refine yes_of (want_free rfl) ?_
              go_simp; exact hK _ _ (gb_refl _ _) rfl
            -- 8: ref.go:40 move
            apply told_is
            · intro W f hW hE h0 K hK
              have e79 : f 79 = _ := hE 0 79 _ rfl (by kernel_rfl)
              clear hE h0
              refine yes_of (want_free rfl) ?_
              go_simp; exact hK _ _ (gb_refl _ _) rfl
            -- 9: ref.go:40 fieldAddr
            apply told_is
            · intro W f hW hE h0 K hK
              have e80 : f 80 = _ := hE 0 80 _ rfl (by kernel_rfl)
              clear hE h0
              refine no_of (want_no rfl rfl e80 rfl) ?_
              exact hK _ _ (gb_refl _ _) rfl
            -- 10: ref.go:40 load
            apply told_is
            · intro W f hW hE h0 K hK
              have e80 : f 80 = _ := hE 1 80 _ rfl (by kernel_rfl)
              clear hE h0
              refine no_of (want_no rfl rfl e80 rfl) ?_
              exact hK _ _ (gb_refl _ _) rfl
            -- 11: ref.go:40 call
            apply told_is
            · intro W f hW hE h0 K hK
              have e80 : f 80 = _ := hE 2 80 _ rfl (by kernel_rfl)
              clear hE h0
              refine no_of (want_no rfl rfl e80 rfl) ?_
              exact hK _ _ (gb_refl _ _) rfl
            -- 12: ref.go:40 binOp
            apply told_is
            · intro W f hW hE h0 K hK
              have e80 : f 80 = _ := hE 3 80 _ rfl (by kernel_rfl)
              clear hE h0
              refine no_of (want_no rfl rfl e80 rfl) ?_
              exact hK _ _ (gb_refl _ _) rfl
            -- 13: ref.go:40 pick
            apply told_is
            · intro W f hW hE h0 K hK
              have e80 : f 80 = _ := hE 4 80 _ rfl (by kernel_rfl)
              have e84 : f 84 = _ := hE 0 84 _ rfl (by kernel_rfl)
              clear hE h0
              refine yes_of (want_free rfl) ?_
              go_simp; exact hK _ _ (gb_refl _ _) rfl
            -- 14: ref.go:40 move
            apply told_is
            · intro W f hW hE h0 K hK
              have e85 : f 85 = _ := hE 0 85 _ rfl (by kernel_rfl)
              clear hE h0
              refine yes_of (want_free rfl) ?_
              go_simp; exact hK _ _ (gb_refl _ _) rfl
            -- 15: ref.go:40 move
            apply told_is
            · intro W f hW hE h0 K hK
              have e86 : f 86 = _ := hE 0 86 _ rfl (by kernel_rfl)
              clear hE h0
              refine no_of (want_no rfl rfl e86 rfl) ?_
              exact hK _ _ (gb_refl _ _) rfl
            -- 16: ref.go:40 binOp
            apply told_is
            · intro W f hW hE h0 K hK
              have e86 : f 86 = _ := hE 1 86 _ rfl (by kernel_rfl)
              clear hE h0
              refine no_of (want_no rfl rfl e86 rfl) ?_
              exact hK _ _ (gb_refl _ _) rfl
            -- 17: ref.go:40 move
            apply told_is
            · intro W f hW hE h0 K hK
              have e86 : f 86 = _ := hE 2 86 _ rfl (by kernel_rfl)
              clear hE h0
              refine no_of (want_no rfl rfl e86 rfl) ?_
              exact hK _ _ (gb_refl _ _) rfl
            -- 18: ref.go:40 fieldAddr
            apply told_is
            · intro W f hW hE h0 K hK
              have e89 : f 89 = _ := hE 0 89 _ rfl (by kernel_rfl)
              clear hE h0
              refine no_of (want_no rfl rfl e89 rfl) ?_
              exact hK _ _ (gb_refl _ _) rfl
            -- 19: ref.go:40 load
            apply told_is
            · intro W f hW hE h0 K hK
              have e89 : f 89 = _ := hE 1 89 _ rfl (by kernel_rfl)
              clear hE h0
              refine no_of (want_no rfl rfl e89 rfl) ?_
              exact hK _ _ (gb_refl _ _) rfl
            -- 20: ref.go:40 move
            apply told_is
            · intro W f hW hE h0 K hK
              have e89 : f 89 = _ := hE 2 89 _ rfl (by kernel_rfl)
              clear hE h0
              refine no_of (want_no rfl rfl e89 rfl) ?_
              exact hK _ _ (gb_refl _ _) rfl
            -- 21: ref.go:40 binOp
            apply told_is
            · intro W f hW hE h0 K hK
              have e89 : f 89 = _ := hE 3 89 _ rfl (by kernel_rfl)
              clear hE h0
              refine no_of (want_no rfl rfl e89 rfl) ?_
              exact hK _ _ (gb_refl _ _) rfl
            -- 22: ref.go:40 indexAddr
            apply told_is
            · intro W f hW hE h0 K hK
              have e89 : f 89 = _ := hE 4 89 _ rfl (by kernel_rfl)
              clear hE h0
              refine no_of (want_no rfl rfl e89 rfl) ?_
              exact hK _ _ (gb_refl _ _) rfl
            -- 23: ref.go:40 fieldAddr
            apply told_is
            · intro W f hW hE h0 K hK
              have e89 : f 89 = _ := hE 5 89 _ rfl (by kernel_rfl)
              clear hE h0
              refine no_of (want_no rfl rfl e89 rfl) ?_
              exact hK _ _ (gb_refl _ _) rfl
            -- 24: ref.go:40 load
            apply told_is
            · intro W f hW hE h0 K hK
              have e89 : f 89 = _ := hE 6 89 _ rfl (by kernel_rfl)
              clear hE h0
              refine no_of (want_no rfl rfl e89 rfl) ?_
              exact hK _ _ (gb_refl _ _) rfl
            -- 25: ref.go:40 fieldAddr
            apply told_is
            · intro W f hW hE h0 K hK
              have e89 : f 89 = _ := hE 7 89 _ rfl (by kernel_rfl)
              clear hE h0
              refine no_of (want_no rfl rfl e89 rfl) ?_
              exact hK _ _ (gb_refl _ _) rfl
            -- 26: ref.go:40 load
            apply told_is
            · intro W f hW hE h0 K hK
              have e89 : f 89 = _ := hE 8 89 _ rfl (by kernel_rfl)
              clear hE h0
              refine no_of (want_no rfl rfl e89 rfl) ?_
              exact hK _ _ (gb_refl _ _) rfl
            -- 27: ref.go:40 binOp
            apply told_is
            · intro W f hW hE h0 K hK
              have e89 : f 89 = _ := hE 9 89 _ rfl (by kernel_rfl)
              clear hE h0
              refine no_of (want_no rfl rfl e89 rfl) ?_
              exact hK _ _ (gb_refl _ _) rfl
            -- 28: ref.go:40 pick
            apply told_is
            · intro W f hW hE h0 K hK
              have e86 : f 86 = _ := hE 13 86 _ rfl (by kernel_rfl)
              clear hE h0
              refine no_of (want_no rfl rfl e86 rfl) ?_
              exact hK _ _ (gb_refl _ _) rfl
            -- 29: ref.go:40 pick
            apply told_is
            · intro W f hW hE h0 K hK
              have e86 : f 86 = _ := hE 14 86 _ rfl (by kernel_rfl)
              have e100 : f 100 = _ := hE 0 100 _ rfl (by kernel_rfl)
              clear hE h0
              refine yes_of (want_free rfl) ?_
              go_simp; exact hK _ _ (gb_refl _ _) rfl
            intro W f hW hA
            simp only [lexIn, Act.put, List.setIfInBounds_toArray, List.set_cons_zero, List.set_cons_succ]
            have e101 : f 101 = _ := hA 0 (some 101) _ rfl
            rw [e101]
            clear hA
            have Hw := Lib.hid hW
            clear hW
            go_wp2_with fail
            go_ret
            exact .of_no (fun h => HF.out h.2) (gb_none HG.out (gb_none Hg4.out Hw.out))
        · have s3 : decide (x.d < 0) = true := decide_eq_true (by omega)
          have HF : Hid (¬ WrapsOk r.wraps) := wraps_bad Hx.out (fun h => ho h.1)
          clear ho
          apply wp_region_told (le := fun a b => a.grownBy b none) [isV _, isV _, isV _, isV _, isV _, isV _, isV _, isV _, isV _, isV _, isV _, isV _, isV _, isV _, isV _, isV _, isV _, isV _, isV _, isV _, isV _, isV _, isV _, isV _, isV _, isV _, isV _, isV _, isV _, isV _]
          case hn => rfl
          case hm => kernel_rfl
          case hB => kernel_rfl
          case ht => exact fun _ _ _ h k => gb_none h k
          case hw => exact gb_drew (gb_refl _ _)
          -- 0: ref.go:40 fieldAddr
          apply told_is
          · intro W f hW hE h0 K hK
            have e4 := h0 4 (by kernel_rfl)
            conv at e4 => rhs; whnf
            clear hE h0
            refine yes_of (want_free rfl) ?_
            go_simp; exact hK _ _ (gb_refl _ _) rfl
          -- 1: ref.go:40 load
          apply told_is
          · intro W f hW hE h0 K hK
            have e72 : f 72 = _ := hE 0 72 _ rfl (by kernel_rfl)
            clear hE h0
            refine yes_of (want_free rfl) ?_
            obtain ⟨hc0, hc1⟩ := HR.out W hW
            go_simp; exact hK _ _ (gb_refl _ _) rfl
          -- 2: ref.go:40 binOp
          apply told_is
          · intro W f hW hE h0 K hK
            have e73 : f 73 = _ := hE 0 73 _ rfl (by kernel_rfl)
            clear hE h0
            refine yes_of (want_free rfl) ?_
            go_simp; exact hK _ _ (gb_refl _ _) rfl
          -- 3: ref.go:40 move
          apply told_is
          · intro W f hW hE h0 K hK
            have e74 : f 74 = _ := hE 0 74 _ rfl (by kernel_rfl)
            clear hE h0
            refine yes_of (want_free rfl) ?_
            go_simp; exact hK _ _ (gb_refl _ _) rfl
          -- 4: ref.go:40 fieldAddr
          apply told_is
          · intro W f hW hE h0 K hK
            have e75 : f 75 = _ := hE 0 75 _ rfl (by kernel_rfl)
            clear hE h0
            refine no_of (want_no rfl rfl e75 rfl) ?_
            exact hK _ _ (gb_refl _ _) rfl
          -- 5: ref.go:40 load
          apply told_is
          · intro W f hW hE h0 K hK
            have e75 : f 75 = _ := hE 1 75 _ rfl (by kernel_rfl)
            clear hE h0
            refine no_of (want_no rfl rfl e75 rfl) ?_
            exact hK _ _ (gb_refl _ _) rfl
          -- 6: ref.go:40 binOp
          apply told_is
          · intro W f hW hE h0 K hK
            have e75 : f 75 = _ := hE 2 75 _ rfl (by kernel_rfl)
            clear hE h0
            refine no_of (want_no rfl rfl e75 rfl) ?_
            exact hK _ _ (gb_refl _ _) rfl
          -- 7: ref.go:40 pick
          apply told_is
          · intro W f hW hE h0 K hK
            have e75 : f 75 = _ := hE 3 75 _ rfl (by kernel_rfl)
            have e78 : f 78 = _ := hE 0 78 _ rfl (by kernel_rfl)
            clear hE h0
            refine yes_of (want_free rfl) ?_
            go_simp; exact hK _ _ (gb_refl _ _) rfl
          -- 8: ref.go:40 move
          apply told_is
          · intro W f hW hE h0 K hK
            have e79 : f 79 = _ := hE 0 79 _ rfl (by kernel_rfl)
            clear hE h0
            refine yes_of (want_free rfl) ?_
            go_simp; exact hK _ _ (gb_refl _ _) rfl
          -- 9: ref.go:40 fieldAddr
          apply told_is
          · intro W f hW hE h0 K hK
            have e80 : f 80 = _ := hE 0 80 _ rfl (by kernel_rfl)
            clear hE h0
            refine no_of (want_no rfl rfl e80 rfl) ?_
            exact hK _ _ (gb_refl _ _) rfl
          -- 10: ref.go:40 load
          apply told_is
          · intro W f hW hE h0 K hK
            have e80 : f 80 = _ := hE 1 80 _ rfl (by kernel_rfl)
            clear hE h0
            refine no_of (want_no rfl rfl e80 rfl) ?_
            exact hK _ _ (gb_refl _ _) rfl
          -- 11: ref.go:40 call
          apply told_is
          · intro W f hW hE h0 K hK
            have e80 : f 80 = _ := hE 2 80 _ rfl (by kernel_rfl)
            clear hE h0
            refine no_of (want_no rfl rfl e80 rfl) ?_
            exact hK _ _ (gb_refl _ _) rfl
          -- 12: ref.go:40 binOp
          apply told_is
          · intro W f hW hE h0 K hK
            have e80 : f 80 = _ := hE 3 80 _ rfl (by kernel_rfl)
            clear hE h0
            refine no_of (want_no rfl rfl e80 rfl) ?_
            exact hK _ _ (gb_refl _ _) rfl
          -- 13: ref.go:40 pick
          apply told_is
          · intro W f hW hE h0 K hK
            have e80 : f 80 = _ := hE 4 80 _ rfl (by kernel_rfl)
            have e84 : f 84 = _ := hE 0 84 _ rfl (by kernel_rfl)
            clear hE h0
            refine yes_of (want_free rfl) ?_
            go_simp; exact hK _ _ (gb_refl _ _) rfl
          -- 14: ref.go:40 move
          apply told_is
          · intro W f hW hE h0 K hK
            have e85 : f 85 = _ := hE 0 85 _ rfl (by kernel_rfl)
            clear hE h0
            refine yes_of (want_free rfl) ?_
            go_simp; exact hK _ _ (gb_refl _ _) rfl
          -- 15: ref.go:40 move
          apply told_is
          · intro W f hW hE h0 K hK
            have e86 : f 86 = _ := hE 0 86 _ rfl (by kernel_rfl)
            clear hE h0
            refine no_of (want_no rfl rfl e86 rfl) ?_
            exact hK _ _ (gb_refl _ _) rfl
          -- 16: ref.go:40 binOp
          apply told_is
          · intro W f hW hE h0 K hK
            have e86 : f 86 = _ := hE 1 86 _ rfl (by kernel_rfl)
            clear hE h0
            refine no_of (want_no rfl rfl e86 rfl) ?_
            exact hK _ _ (gb_refl _ _) rfl
          -- 17: ref.go:40 move
          apply told_is
          · intro W f hW hE h0 K hK
            have e86 : f 86 = _ := hE 2 86 _ rfl (by kernel_rfl)
            clear hE h0
            refine no_of (want_no rfl rfl e86 rfl) ?_
            exact hK _ _ (gb_refl _ _) rfl
          -- 18: ref.go:40 fieldAddr
          apply told_is
          · intro W f hW hE h0 K hK
            have e89 : f 89 = _ := hE 0 89 _ rfl (by kernel_rfl)
            clear hE h0
            refine no_of (want_no rfl rfl e89 rfl) ?_
            exact hK _ _ (gb_refl _ _) rfl
          -- 19: ref.go:40 load
          apply told_is
          · intro W f hW hE h0 K hK
            have e89 : f 89 = _ := hE 1 89 _ rfl (by kernel_rfl)
            clear hE h0
            refine no_of (want_no rfl rfl e89 rfl) ?_
            exact hK _ _ (gb_refl _ _) rfl
          -- 20: ref.go:40 move
          apply told_is
          · intro W f hW hE h0 K hK
            have e89 : f 89 = _ := hE 2 89 _ rfl (by kernel_rfl)
            clear hE h0
            refine no_of (want_no rfl rfl e89 rfl) ?_
            exact hK _ _ (gb_refl _ _) rfl
          -- 21: ref.go:40 binOp
          apply told_is
          · intro W f hW hE h0 K hK
            have e89 : f 89 = _ := hE 3 89 _ rfl (by kernel_rfl)
            clear hE h0
            refine no_of (want_no rfl rfl e89 rfl) ?_
            exact hK _ _ (gb_refl _ _) rfl
          -- 22: ref.go:40 indexAddr
          apply told_is
          · intro W f hW hE h0 K hK
            have e89 : f 89 = _ := hE 4 89 _ rfl (by kernel_rfl)
            clear hE h0
            refine no_of (want_no rfl rfl e89 rfl) ?_
            exact hK _ _ (gb_refl _ _) rfl
          -- 23: ref.go:40 fieldAddr
          apply told_is
          · intro W f hW hE h0 K hK
            have e89 : f 89 = _ := hE 5 89 _ rfl (by kernel_rfl)
            clear hE h0
            refine no_of (want_no rfl rfl e89 rfl) ?_
            exact hK _ _ (gb_refl _ _) rfl
          -- 24: ref.go:40 load
          apply told_is
          · intro W f hW hE h0 K hK
            have e89 : f 89 = _ := hE 6 89 _ rfl (by kernel_rfl)
            clear hE h0
            refine no_of (want_no rfl rfl e89 rfl) ?_
            exact hK _ _ (gb_refl _ _) rfl
          -- 25: ref.go:40 fieldAddr
          apply told_is
          · intro W f hW hE h0 K hK
            have e89 : f 89 = _ := hE 7 89 _ rfl (by kernel_rfl)
            clear hE h0
            refine no_of (want_no rfl rfl e89 rfl) ?_
            exact hK _ _ (gb_refl _ _) rfl
          -- 26: ref.go:40 load
          apply told_is
          · intro W f hW hE h0 K hK
            have e89 : f 89 = _ := hE 8 89 _ rfl (by kernel_rfl)
            clear hE h0
            refine no_of (want_no rfl rfl e89 rfl) ?_
            exact hK _ _ (gb_refl _ _) rfl
          -- 27: ref.go:40 binOp
          apply told_is
          · intro W f hW hE h0 K hK
            have e89 : f 89 = _ := hE 9 89 _ rfl (by kernel_rfl)
            clear hE h0
            refine no_of (want_no rfl rfl e89 rfl) ?_
            exact hK _ _ (gb_refl _ _) rfl
          -- 28: ref.go:40 pick
          apply told_is
          · intro W f hW hE h0 K hK
            have e86 : f 86 = _ := hE 13 86 _ rfl (by kernel_rfl)
            clear hE h0
            refine no_of (want_no rfl rfl e86 rfl) ?_
            exact hK _ _ (gb_refl _ _) rfl
          -- 29: ref.go:40 pick
          apply told_is
          · intro W f hW hE h0 K hK
            have e86 : f 86 = _ := hE 14 86 _ rfl (by kernel_rfl)
            have e100 : f 100 = _ := hE 0 100 _ rfl (by kernel_rfl)
            clear hE h0
            refine yes_of (want_free rfl) ?_
            go_simp; exact hK _ _ (gb_refl _ _) rfl
          intro W f hW hA
          simp only [lexIn, Act.put, List.setIfInBounds_toArray, List.set_cons_zero, List.set_cons_succ]
          have e101 : f 101 = _ := hA 0 (some 101) _ rfl
          rw [e101]
          clear hA
          have Hw := Lib.hid hW
          clear hW
          go_wp2_with fail
          go_ret
          exact .of_no (fun h => HF.out h.2) (gb_none HG.out (gb_none Hg4.out Hw.out))
      · have hkn : k = n := by omega
        subst hkn
        have d1 : decide (k < k) = false := by simp
        have d2 : decide ((k : Int) < (k : Int)) = false := by simp
        have He : Hid (WrapsOk r.wraps) := wraps_all HK.out hWL.1
        clear hWL
        go_wp2_with fail
        go_ret
        exact .of_yes ⟨Hm.out, He.out⟩ (gb_none HG.out hg)
theorem refMay_any (r : Rc) (A : Option Addr) (c : Nat) (w : World) (hw : WL w A r.wraps.length r.wraps) (hn : r.wraps.length ≤ 1099511627776) :
    Calls Try.prog 23 #[.agg #[.int .i64 r.seq, .string r.prev, .int .i64 r.kind, .int .i64 r.dev, .slice A r.wraps.length c, .string r.tag]] w (BoolIs (MayR r) w) := by
  by_cases hm : MayH r
  · exact refMay_yes r A c w hw hn hm
  · exact refMay_no r A c w hw hn hm
end Go.Proofs.Ytaecfcodldbnhaa.Mb
