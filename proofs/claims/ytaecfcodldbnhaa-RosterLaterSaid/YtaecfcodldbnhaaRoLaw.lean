/- awake of stage 16; what its laws share. Written by gen_ro.py. -/
import Derived.Test.YtaecfcodldbnhaaRoPg
import Derived.Test.YtaecfcodldbnhaaRoRef
import Derived.Test.YtaecfcodldbnhaaMbChain
import Derived.Test.YtaecfcodldbnhaaTdA
set_option linter.unusedVariables false
namespace Go.Proofs.Ytaecfcodldbnhaa.Ro
open Go Go.RowKit Go.Proofs.Ytaecfcodldbnhaa.Mm Go.Proofs.Ytaecfcodldbnhaa.Td Go.Proofs.Ytaecfcodldbnhaa.Vw Go.Proofs.Ytaecfcodldbnhaa.Dt

open Go.Proofs.Ytaecfcodldbnhaa.Mb
attribute [local go_sem] Td.upon_value Td.upon_skip Td.upon_enter Td.upon_row Td.look_tmp Td.look_const Td.look_func Td.look_global
theorem chain_nil_is : chainC [] = [firstR] := rfl
def intsV (L : List Int) : Td.Spec := fun W v => ∃ A c, v = .slice A L.length c ∧ IL W A L.length L
theorem intsV_stays {L : List Int} : Td.Stays (fun a b => a.grownBy b none) (intsV L) := fun _ _ _ h ⟨A, c, e, h1⟩ => ⟨A, c, e, h1.keep h⟩
theorem mems_none {l : List Rc} (h : GoodR l) : memsB l 0 = [] := (mems_ext (l' := []) (e' := 0) fun d => by rw [in_zero h, in_nil]).trans rfl
theorem ints_same (A B : Option Addr) (c d : Nat) (L : List Int) (w : World) (ha : IL w A L.length L) (hb : IL w B L.length L) (hn : L.length ≤ 8) : Calls Try.prog 6 #[.slice A L.length c, .slice B L.length d] w fun e w' => e = .returned (.bool true) ∧ w.grownBy w' none := (ints_any A B _ c _ d L L w ha hb (by omega) (by omega)).mono fun _ _ h => h.yes rfl
theorem chain_own {W : World} {B : Nat} {v : Value} {ns : List Nat} (h : W.ownsRow B 32 6 v (chainC ns).length (bv (chainC ns))) : ∃ A c, v = .slice A (chainC ns).length c ∧ LogL W A (chainC ns).length (chainC ns) ∧ (chainC ns).length ≤ c := own_log h rfl (chainC_bare ns)
set_option maxHeartbeats 8000000 in
set_option maxRecDepth 100000 in
theorem awake16_any (w : World) : Calls Try.prog 11 #[] w fun e w' => e = .returned (.bool true) ∧ w.grownBy w' none := by
  have HM0 : Hid (∀ W, Calls Try.prog 7 #[.slice none 0 0, .int .i64 3] W fun e w' => ∃ A c, e = .returned (.slice A 0 c) ∧ W.grownBy w' none) := fun W => (pMembers_any none 0 0 [] 3 W (LogL.none _ _) (by decide)).mono fun e w' h => by
    obtain ⟨A, c, rfl, _, hg⟩ := h
    exact ⟨A, c, rfl, hg⟩
  have HC0 : Hid (∀ W, Calls Try.prog 12 #[.slice none 0 0] W fun e w' => ∃ A c, e = .returned (.slice A 1 c) ∧ LogL w' A 1 [firstR] ∧ W.grownBy w' none) := fun W => (chain_any none 0 0 [] W ⟨rfl, fun h => absurd h (by omega)⟩).mono fun e w' h => by
    obtain ⟨v, rfl, ho, hg⟩ := h
    obtain ⟨A, c, rfl, hL, _⟩ := chain_own ho
    exact ⟨A, c, rfl, hL, hg⟩
  have HI1 : Hid (∀ A c W, LogL W A 1 [firstR] → Calls Try.prog 9 #[.slice A 1 c, .int .i64 1, .int .i64 0] W fun e w' => e = .returned (.bool true) ∧ W.grownBy w' none) := fun A c W h => pIn_any A 1 c [firstR] 1 0 W h (by decide)
  have HI0 : Hid (∀ A c W, LogL W A 1 [firstR] → Calls Try.prog 9 #[.slice A 1 c, .int .i64 0, .int .i64 0] W fun e w' => e = .returned (.bool false) ∧ W.grownBy w' none) := fun A c W h => pIn_any A 1 c [firstR] 0 0 W h (by decide)
  go_enter Try.func11, Try.ntmps11
  go_upto_region 1 with fail
  go_wp2_with fail
  refine (HM0.out w).mono ?_
  rintro e w1 ⟨A1, c1, rfl, g1⟩
  have Hg1 := Lib.hid g1
  clear g1
  go_wp2_with fail
  refine (HC0.out w1).mono ?_
  rintro e w2 ⟨A2, c2, rfl, hL2, g2⟩
  have Hg2 := Lib.hid (gb_none Hg1.out g2)
  have HL2 := Lib.hid hL2
  clear g2 hL2
  go_wp2_with fail
  refine (HI1.out A2 c2 w2 HL2.out).mono ?_
  rintro e w3 ⟨rfl, g3⟩
  have Hg3 := Lib.hid (gb_none Hg2.out g3)
  clear g3
  go_wp2_with fail
  refine (HC0.out w3).mono ?_
  rintro e w4 ⟨A4, c4, rfl, hL4, g4⟩
  have Hg4 := Lib.hid (gb_none Hg3.out g4)
  have HL4 := Lib.hid hL4
  clear g4 hL4
  go_wp2_with fail
  refine (HI0.out A4 c4 w4 HL4.out).mono ?_
  rintro e w5 ⟨rfl, g5⟩
  have Hg5 := Lib.hid (gb_none Hg4.out g5)
  clear g5
  go_wp2_with fail
  go_ret
  exact ⟨rfl, Hg5.out⟩
end Go.Proofs.Ytaecfcodldbnhaa.Ro
