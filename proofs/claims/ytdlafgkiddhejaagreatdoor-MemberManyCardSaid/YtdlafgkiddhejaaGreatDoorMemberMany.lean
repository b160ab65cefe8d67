/-
  Proved: whatever values of its parameters' types it is called with, deaddroplaw15.MemberMany returns true, and each argument reads behind the call as it read before; the listed package-level variables being what the program's own text lays (the card ties them).
  Conditions: none but those of the card itself.
-/
import Derived.Test.YtdlafgkiddhejaaGreatDoorCards
import Derived.Test.YtdlafgkiddhejaaGreatDoorTie
import Derived.WalkKit
import Derived.ProofKit
import Derived.OpenShut
import Derived.ShutString
import Derived.Below
import Derived.ChangeOld
import Derived.Deep.DeepHandedRow
import Derived.LaidSub
import Derived.LaidHandle
import Derived.LaidLaws
import Derived.RowKitTokens
import Derived.Stop.LaidTwo
import Derived.Lib.LaidTab
import Derived.Test.YtdlafgkiddhejaaGreatDoorMbLaw
import Derived.Test.YtdlafgkiddhejaaGreatDoorTdA
import Derived.Deep.DeepCutAuto
import Derived.Maps.AppendAt
import Derived.Deep.AppendLies
import Derived.Test.YtdlafgkiddhejaaGreatDoorSn
namespace Go.Proofs.YtdlafgkiddhejaaGreatDoor.memberMany
open Go.ChangeShapes Go.WideShapes Go.ChangeAt Go.RowKit
open Go.ChangeMaps (open_string shut_string)
open Go.Proofs.YtdlafgkiddhejaaGreatDoor.Mm Go.Proofs.YtdlafgkiddhejaaGreatDoor.Dt Go.Proofs.YtdlafgkiddhejaaGreatDoor.Td Go.Proofs.YtdlafgkiddhejaaGreatDoor.Vw Go.Proofs.YtdlafgkiddhejaaGreatDoor.Wd Go.Proofs.YtdlafgkiddhejaaGreatDoor.Hh Go.Proofs.YtdlafgkiddhejaaGreatDoor.Mb Go.Proofs.YtdlafgkiddhejaaGreatDoor.Me Go.Proofs.YtdlafgkiddhejaaGreatDoor
set_option linter.unusedVariables false

theorem own : ownKnob Tryz.prog.godebug = none := by kernel_rfl
theorem laidOut : laidOutB Tryz.prog = true := by kernel_rfl

attribute [local go_sem] Td.upon_value Td.upon_skip Td.upon_enter Td.upon_row Td.look_tmp Td.look_const Td.look_func Td.look_global
theorem rec_inf : (Tryz.prog.info? 26).map (fun i => (i.zero, i.size, i.bytes)) = some (some (.agg #[.int .i64 0, .string ⟨#[]⟩, .int .i64 0, .int .i64 0, .slice none 0 0, .string ⟨#[]⟩]), 6, 80) := by kernel_rfl
theorem rec_parts : ∃ i, Tryz.prog.info? 26 = some i ∧ i.zero = some (.agg #[.int .i64 0, .string ⟨#[]⟩, .int .i64 0, .int .i64 0, .slice none 0 0, .string ⟨#[]⟩]) ∧ i.size = 6 ∧ i.bytes = 80 := by
  obtain ⟨i, hi, h⟩ := Option.map_eq_some_iff.1 rec_inf
  simp only [Prod.mk.injEq] at h
  exact ⟨i, hi, h.1, h.2.1, h.2.2⟩
/-- A new row, told. -/
def newV (n : Nat) (cs : Array Value) : Td.Spec := fun W v => ∃ g, v = .slice (some ⟨g, 0, none⟩) n n ∧ Row W g 26 cs
theorem newV_stays {n : Nat} {cs : Array Value} : Stays (fun a b => a.grownBy b none) (newV n cs) := fun _ _ _ h ⟨g, e, hr⟩ => ⟨g, e, hr.kept h (by simp)⟩
theorem many_bare : ∀ {k : Nat}, ∀ r ∈ manyR k, r.wraps = []
  | 0, r, h => by cases h
  | k + 1, r, h => by
    rw [manyR] at h
    rcases List.mem_append.1 h with h | h
    · exact many_bare r h
    · rw [List.mem_singleton.1 h]; rfl
theorem last_is {l : List Rc} {j : Nat} {r : Rc} (hl : l.length = j + 1) (hr : l[j]? = some r) : lastH l = hashB r := by
  unfold lastH
  rw [List.getLast?_eq_getElem?, hl, Nat.add_sub_cancel, hr]
theorem many_zero {k : Nat} (h : k = 0) : manyR (k + 1) = manyR k ++ [⟨(k : Int) + 1, ⟨#[]⟩, 1, 0, [], ⟨#[]⟩⟩] := by subst h; rfl
theorem many_odd {k : Nat} (h : k ≠ 0) (h2 : k % 2 = 1) : manyR (k + 1) = manyR k ++ [⟨(k : Int) + 1, lastH (manyR k), 1, 1, [], ⟨#[]⟩⟩] := by
  rw [manyR, if_neg (show ¬ (k % 2 = 0 ∧ k ≠ 0) from fun x => by omega), if_neg h]
  unfold bare
  rw [many_len]
theorem many_even {k : Nat} (h : k ≠ 0) (h2 : k % 2 = 0) : manyR (k + 1) = manyR k ++ [⟨(k : Int) + 1, lastH (manyR k), 2, 1, [], ⟨#[]⟩⟩] := by
  rw [manyR, if_pos ⟨h2, h⟩, if_neg h]
  unfold bare
  rw [many_len]
theorem own_past {w : World} {B b i : Nat} {e : TypeId} {s : Nat} {v : Value} {n : Nat} {xs : List Value} {x : Value} (h : w.ownsRow B e s v n xs) (hv : ∀ j, v.ownBlock = some j → j ≠ b) : (w.setCell ⟨b, i, none⟩ x).ownsRow B e s v n xs := by
  refine World.ownsRow.kept h (gb_set1 w b i x) ?_
  cases hb : v.ownBlock with
  | none => exact .inl rfl
  | some q => exact .inr (by simpa using hv q hb)

set_option maxHeartbeats 40000000 in
set_option maxRecDepth 100000 in
theorem walk (a0 : Int) (a1 : Int) (w : World) (w0 : (Lit.int .u8 a0).wf = true) (w1 : (Lit.int .u8 a1).wf = true) (hE : Sn.Two w 0 1 ∧ Sn.Two w 2 3 ∧ Sn.Two w 4 5 ∧ Sn.Two w 6 7) (hT : w.cell? ⟨9, 0, none⟩ = some (.iface 126 (.agg #[.pointer (some ⟨12, 45, none⟩)]))) (hS : Tabs w) :
    Calls Tryz.prog 5 #[.int .u8 a0, .int .u8 a1] w fun e w' => e = .returned (.bool true) ∧ Below w.heap.size w w' := by
  have HR : Hid (Rdy w) := ⟨hS, MErrs.of hE, hT⟩
  have HAw : Hid (∀ W, w.grownBy W none → Calls Tryz.prog 9 #[] W fun e w' => e = .returned (.bool true) ∧ W.grownBy w' none) := fun W hW => awake15_any W (HR.out.keep hW)
  clear hS hE hT
  obtain ⟨n0, n0'⟩ := u8_of w0
  obtain ⟨n1, n1'⟩ := u8_of w1
  obtain ⟨K, hK, hK46⟩ : ∃ K : Nat, a0 % 46 = (K : Int) ∧ K < 46 := ⟨(a0 % 46).toNat, by omega, by omega⟩
  have HK := Lib.hid hK46
  have Hn1 : Hid (0 ≤ a1 ∧ a1 ≤ 255) := ⟨n1, n1'⟩
  have t0 : IntKind.i64.wrap a0 = a0 := by rw [IntKind.wrap_i64]; omega
  have t1 : a0.tmod 46 = (K : Int) := by rw [Int.tmod_eq_emod_of_nonneg n0, hK]
  have t2 : IntKind.i64.wrap (K : Int) = (K : Int) := by rw [IntKind.wrap_i64]; omega
  obtain ⟨i0, hi0, hz0, hz1, hz2⟩ := rec_parts
  have Hi0 := Lib.hid hi0
  have Hz0 := Lib.hid hz0
  have Hz1 := Lib.hid hz1
  have Hz2 := Lib.hid hz2
  clear w0 w1 n0 n0' n1 n1' hK hK46 hi0 hz0 hz1 hz2
  go_enter Tryz.func5, Tryz.ntmps5
  go_wp2_with fail
  clear t0 t1 t2
  go_loopw [6, 7] (fun lv iv wr => ∃ (k : Nat) (u : Value), u = lv ∧ k ≤ K ∧ iv = .int .i64 k ∧ Hid (wr.ownsRow w.heap.size 26 6 lv k (bv (manyR k))) ∧ w.grownBy wr none) (fun _ iv _ => K - (intOf iv).toNat)
  case atStart => exact ⟨0, _, rfl, Nat.zero_le _, rfl, World.ownsRow_nil _ _ _ _, gb_refl _ _⟩
  case round =>
    obtain ⟨k, u, rfl, hk, rfl, Ho, hg⟩ := hrel
    by_cases hlt : k < K
    · have d1 : decide (k < K) = true := decide_eq_true hlt
      have d2 : decide ((k : Int) < (K : Int)) = true := decide_eq_true (by omega)
      have t1 : IntKind.i64.wrap ((k : Int) + 1) = (k : Int) + 1 := by rw [IntKind.wrap_i64]; have := HK.out; omega
      have Hlt := Lib.hid hlt
      clear hk hlt
      go_upto_region 7 with fail
      obtain ⟨b6, hb6⟩ : ∃ b6, wr.heap.size = b6 := ⟨_, rfl⟩
      obtain ⟨W6, hW6⟩ : ∃ W6, wr.alloc (.cells #[.int .i64 ((k : Int) + 1), .string ⟨#[]⟩, .int .i64 1, .int .i64 1, .slice none 0 0, .string ⟨#[]⟩] 26) = W6 := ⟨_, rfl⟩
      have HR6 : Hid (Row W6 b6 26 #[.int .i64 ((k : Int) + 1), .string ⟨#[]⟩, .int .i64 1, .int .i64 1, .slice none 0 0, .string ⟨#[]⟩]) := by rw [← hW6, ← hb6]; exact Row.new _ _ _
      have HG6 : Hid (wr.grownBy W6 none) := by rw [← hW6]; exact gb_alloc (gb_refl _ _) _
      have Hg6 : Hid (w.grownBy W6 none) := gb_none hg HG6.out
      have Hb6 : Hid (w.heap.size ≤ b6) := by show _ ≤ _; rw [← hb6]; exact hg.size
      have HU0 : Hid (∀ i, u.ownBlock = some i → i ≠ b6) := fun i e => by have := (Ho.out.lt i e).2; omega
      have HU := HU0
      have Ho6 := Lib.hid (Mb.own_keep Ho.out HG6.out)
      rw [hb6, hW6]
      clear hb6 hW6 hg d1 d2
      by_cases hk0 : k = 0
      · have e0 : ((k : Int) == 0) = true := eq_yes (by omega)
        have e0b : (k == 0) = true := by simpa using hk0
        have HNx : Hid (manyR (k + 1) = manyR k ++ [⟨(k : Int) + 1, ⟨#[]⟩, 1, 0, [], ⟨#[]⟩⟩]) := many_zero hk0
        have x3 : W6.cell? ⟨b6, 3, none⟩ = some (.int .i64 1) := HR6.out.at_ (i := 3) rfl
        have f3 : W6.frozen? ⟨b6, 3, none⟩ = false := HR6.out.free 3
        clear hk0
        go_upto_region 12 with fail
        clear x3 f3
        have HRo := HR6
        have Hgo := Hg6
        have Hoo := Ho6
        have HR9 := Lib.hid (HRo.out.set_ 3 (.int .i64 0))
        have Hg9 : Hid (w.grownBy (W6.setCell ⟨b6, 3, none⟩ (.int .i64 0)) none) := gb_new Hgo.out (gb_set1 _ _ _ _) Hb6.out
        have Ho9 : Hid ((W6.setCell ⟨b6, 3, none⟩ (.int .i64 0)).ownsRow w.heap.size 26 6 u k (bv (manyR k))) := own_past Hoo.out HU.out
        obtain ⟨W9, hW9⟩ : ∃ W9, W6.setCell ⟨b6, 3, none⟩ (.int .i64 0) = W9 := ⟨_, rfl⟩
        rw [hW9] at HR9 Hg9 Ho9 ⊢
        clear hW9
        have HB9 : Hid (W9.cell? ⟨b6, 0, none⟩ = some (.int .i64 ((k : Int) + 1)) ∧ W9.cell? ⟨b6, 1, none⟩ = some (.string ⟨#[]⟩) ∧ W9.cell? ⟨b6, 2, none⟩ = some (.int .i64 1) ∧ W9.cell? ⟨b6, 3, none⟩ = some (.int .i64 0) ∧ W9.cell? ⟨b6, 4, none⟩ = some (.slice none 0 0) ∧ W9.cell? ⟨b6, 5, none⟩ = some (.string ⟨#[]⟩)) := ⟨(HR9.out).at_ (i := 0) rfl, (HR9.out).at_ (i := 1) rfl, (HR9.out).at_ (i := 2) rfl, (HR9.out).at_ (i := 3) rfl, (HR9.out).at_ (i := 4) rfl, (HR9.out).at_ (i := 5) rfl⟩
        obtain ⟨x0, x1, x2, x3, x4, x5⟩ := HB9.out
        have Ho10 : Hid ((W9.alloc (.cells #[.int .i64 ((k : Int) + 1), .string ⟨#[]⟩, .int .i64 1, .int .i64 0, .slice none 0 0, .string ⟨#[]⟩] 26)).ownsRow w.heap.size 26 6 u k (bv (manyR k))) := Mb.own_keep Ho9.out (gb_alloc (gb_refl _ _) _)
        have hgs : w.heap.size ≤ (W9.alloc (.cells #[.int .i64 ((k : Int) + 1), .string ⟨#[]⟩, .int .i64 1, .int .i64 0, .slice none 0 0, .string ⟨#[]⟩] 26)).heap.size := (gb_alloc Hg9.out _).size
        go_wp2_with (at_builtin; go_must (refine wpList_append_own_at _ rfl (.tmp 39) (.tmp 41) 22 rfl w.heap.size 26 i0 (.agg #[.int .i64 0, .string ⟨#[]⟩, .int .i64 0, .int .i64 0, .slice none 0 0, .string ⟨#[]⟩]) 6 80 Tryz.underlying22 Hi0.out Hz0.out Hz1.out Hz2.out rfl (by decide) _ k _ rfl Ho10.out ⟨W9.heap.size, 0, none⟩ 1 1 [.int .i64 ((k : Int) + 1), .string ⟨#[]⟩, .int .i64 1, .int .i64 0, .slice none 0 0, .string ⟨#[]⟩] rfl rfl (World.news_of_block (cs := #[.int .i64 ((k : Int) + 1), .string ⟨#[]⟩, .int .i64 1, .int .i64 0, .slice none 0 0, .string ⟨#[]⟩]) (t := 26) (fr := (0, 0)) (heap_alloc_new W9 _)) (bv1_one ⟨(k : Int) + 1, ⟨#[]⟩, 1, 0, [], ⟨#[]⟩⟩) (by have := HK.out; have := Hlt.out; simp only [maxLen]; omega) (by have := HK.out; have := Hlt.out; omega) hgs ?_); intro v8 w8 own8 hgrow _ _; have Hown8 := Lib.hid own8; have Hg8 := Lib.hid (gb_step (gb_alloc Hg9.out _) hgrow (fun i e => .inr (Ho10.out.lt i e).1)); clear own8 hgrow)
        go_roundw
        case rel =>
          refine ⟨k + 1, _, rfl, by have := Hlt.out; omega, rfl, ?_, Hg8.out⟩
          rw [HNx.out, bv_append]
          exact Hown8.out
        case measure => simp [intOf]; have := Hlt.out; omega
      · have e0 : ((k : Int) == 0) = false := eq_no (by omega)
        have e0b : (k == 0) = false := by simpa using hk0
        have HkJ : Hid (k ≠ 0) := hk0
        obtain ⟨j, hj⟩ : ∃ j, j + 1 = k := ⟨k - 1, by omega⟩
        have t2 : IntKind.i64.wrap ((k : Int) - 1) = (j : Int) := by rw [IntKind.wrap_i64]; have := HK.out; have := Hlt.out; omega
        have bj : (j : Int) < (k : Int) := by omega
        obtain ⟨A9, c9, rfl, hLL, _⟩ := own_log Ho.out (many_len k) many_bare
        have hL6 := hLL.keep HG6.out
        obtain ⟨g, o, rfl, hgl, _⟩ := hL6.2 (by omega)
        obtain ⟨r, hx⟩ : ∃ r, (manyR k)[j]? = some r := ⟨_, List.getElem?_eq_getElem (by rw [many_len]; omega)⟩
        obtain ⟨RA, rc, y0, y1, y2, y3, y4, y5, hwl, _⟩ := (Mb.log_rec hL6 hx).2
        have hbr : r.wraps.length ≤ 1099511627776 := bare_len many_bare r (List.mem_of_getElem? hx)
        have HLr : Hid (lastH (manyR k) = hashB r) := last_is (by rw [many_len, ← hj]) hx
        have HHs : Hid (Calls Tryz.prog 17 #[.agg #[.int .i64 r.seq, .string r.prev, .int .i64 r.kind, .int .i64 r.dev, .slice RA r.wraps.length rc, .string r.tag]] W6 fun e w' => e = .returned (.string (hashB r)) ∧ W6.grownBy w' none) := hash_any r RA rc W6 hwl hbr (HR.out.keep Hg6.out).1
        have HU : Hid (∀ i, ((.slice (some ⟨g, o, none⟩) k c9) : Value).ownBlock = some i → i ≠ b6) := HU0.out
        clear hLL hL6 hgl hx hwl hbr hk0 hj
        go_wp2_with fail
        refine HHs.out.mono ?_
        rintro e w7 ⟨rfl, g7⟩
        have HR7 := Lib.hid (HR6.out.kept g7 (by simp))
        have Hg7 := Lib.hid (gb_none Hg6.out g7)
        have Ho7 := Lib.hid (Mb.own_keep Ho6.out g7)
        have x1 : w7.cell? ⟨b6, 1, none⟩ = some (.string ⟨#[]⟩) := HR7.out.at_ (i := 1) rfl
        have f1 : w7.frozen? ⟨b6, 1, none⟩ = false := HR7.out.free 1
        clear g7 y0 y1 y2 y3 y4 y5 t2 bj
        go_upto_region 10 with fail
        clear x1 f1
        have HRo := HR7
        have Hgo := Hg7
        have Hoo := Ho7
        have HR8 := Lib.hid (HRo.out.set_ 1 (.string (hashB r)))
        have Hg8 : Hid (w.grownBy (w7.setCell ⟨b6, 1, none⟩ (.string (hashB r))) none) := gb_new Hgo.out (gb_set1 _ _ _ _) Hb6.out
        have Ho8 : Hid ((w7.setCell ⟨b6, 1, none⟩ (.string (hashB r))).ownsRow w.heap.size 26 6 (.slice (some ⟨g, o, none⟩) k c9) k (bv (manyR k))) := own_past Hoo.out HU.out
        obtain ⟨W8, hW8⟩ : ∃ W8, w7.setCell ⟨b6, 1, none⟩ (.string (hashB r)) = W8 := ⟨_, rfl⟩
        rw [hW8] at HR8 Hg8 Ho8 ⊢
        clear hW8
        by_cases hev : k % 2 = 0
        · have e2 : (k : Int).tmod 2 = 0 := by rw [Int.tmod_eq_emod_of_nonneg (by omega)]; omega
          have HNx : Hid (manyR (k + 1) = manyR k ++ [⟨(k : Int) + 1, hashB r, 2, 1, [], ⟨#[]⟩⟩]) := by show _ = _; rw [← HLr.out]; exact many_even HkJ.out hev
          have x2 : W8.cell? ⟨b6, 2, none⟩ = some (.int .i64 1) := HR8.out.at_ (i := 2) rfl
          have f2 : W8.frozen? ⟨b6, 2, none⟩ = false := HR8.out.free 2
          clear hev
          go_upto_region 12 with fail
          clear x2 f2
          have HRo := HR8
          have Hgo := Hg8
          have Hoo := Ho8
          have HR9 := Lib.hid (HRo.out.set_ 2 (.int .i64 2))
          have Hg9 : Hid (w.grownBy (W8.setCell ⟨b6, 2, none⟩ (.int .i64 2)) none) := gb_new Hgo.out (gb_set1 _ _ _ _) Hb6.out
          have Ho9 : Hid ((W8.setCell ⟨b6, 2, none⟩ (.int .i64 2)).ownsRow w.heap.size 26 6 (.slice (some ⟨g, o, none⟩) k c9) k (bv (manyR k))) := own_past Hoo.out HU.out
          obtain ⟨W9, hW9⟩ : ∃ W9, W8.setCell ⟨b6, 2, none⟩ (.int .i64 2) = W9 := ⟨_, rfl⟩
          rw [hW9] at HR9 Hg9 Ho9 ⊢
          clear hW9
          have HB9 : Hid (W9.cell? ⟨b6, 0, none⟩ = some (.int .i64 ((k : Int) + 1)) ∧ W9.cell? ⟨b6, 1, none⟩ = some (.string (hashB r)) ∧ W9.cell? ⟨b6, 2, none⟩ = some (.int .i64 2) ∧ W9.cell? ⟨b6, 3, none⟩ = some (.int .i64 1) ∧ W9.cell? ⟨b6, 4, none⟩ = some (.slice none 0 0) ∧ W9.cell? ⟨b6, 5, none⟩ = some (.string ⟨#[]⟩)) := ⟨(HR9.out).at_ (i := 0) rfl, (HR9.out).at_ (i := 1) rfl, (HR9.out).at_ (i := 2) rfl, (HR9.out).at_ (i := 3) rfl, (HR9.out).at_ (i := 4) rfl, (HR9.out).at_ (i := 5) rfl⟩
          obtain ⟨x0, x1, x2, x3, x4, x5⟩ := HB9.out
          have Ho10 : Hid ((W9.alloc (.cells #[.int .i64 ((k : Int) + 1), .string (hashB r), .int .i64 2, .int .i64 1, .slice none 0 0, .string ⟨#[]⟩] 26)).ownsRow w.heap.size 26 6 (.slice (some ⟨g, o, none⟩) k c9) k (bv (manyR k))) := Mb.own_keep Ho9.out (gb_alloc (gb_refl _ _) _)
          have hgs : w.heap.size ≤ (W9.alloc (.cells #[.int .i64 ((k : Int) + 1), .string (hashB r), .int .i64 2, .int .i64 1, .slice none 0 0, .string ⟨#[]⟩] 26)).heap.size := (gb_alloc Hg9.out _).size
          go_wp2_with (at_builtin; go_must (refine wpList_append_own_at _ rfl (.tmp 39) (.tmp 41) 22 rfl w.heap.size 26 i0 (.agg #[.int .i64 0, .string ⟨#[]⟩, .int .i64 0, .int .i64 0, .slice none 0 0, .string ⟨#[]⟩]) 6 80 Tryz.underlying22 Hi0.out Hz0.out Hz1.out Hz2.out rfl (by decide) _ k _ rfl Ho10.out ⟨W9.heap.size, 0, none⟩ 1 1 [.int .i64 ((k : Int) + 1), .string (hashB r), .int .i64 2, .int .i64 1, .slice none 0 0, .string ⟨#[]⟩] rfl rfl (World.news_of_block (cs := #[.int .i64 ((k : Int) + 1), .string (hashB r), .int .i64 2, .int .i64 1, .slice none 0 0, .string ⟨#[]⟩]) (t := 26) (fr := (0, 0)) (heap_alloc_new W9 _)) (bv1_one ⟨(k : Int) + 1, (hashB r), 2, 1, [], ⟨#[]⟩⟩) (by have := HK.out; have := Hlt.out; simp only [maxLen]; omega) (by have := HK.out; have := Hlt.out; omega) hgs ?_); intro v8 w8 own8 hgrow _ _; have Hown8 := Lib.hid own8; have Hg8 := Lib.hid (gb_step (gb_alloc Hg9.out _) hgrow (fun i e => .inr (Ho10.out.lt i e).1)); clear own8 hgrow)
          go_roundw
          case rel =>
            refine ⟨k + 1, _, rfl, by have := Hlt.out; omega, rfl, ?_, Hg8.out⟩
            rw [HNx.out, bv_append]
            exact Hown8.out
          case measure => simp [intOf]; have := Hlt.out; omega
        · have e2 : (k : Int).tmod 2 = 1 := by rw [Int.tmod_eq_emod_of_nonneg (by omega)]; omega
          have HNx : Hid (manyR (k + 1) = manyR k ++ [⟨(k : Int) + 1, hashB r, 1, 1, [], ⟨#[]⟩⟩]) := by show _ = _; rw [← HLr.out]; exact many_odd HkJ.out (by omega)
          clear hev
          go_upto_region 12 with fail
          obtain ⟨W9, hW9⟩ : ∃ W9, W8 = W9 := ⟨_, rfl⟩
          have HR9 := HR8
          have Hg9 := Hg8
          have Ho9 := Ho8
          rw [hW9] at HR9 Hg9 Ho9 ⊢
          clear hW9
          have HB9 : Hid (W9.cell? ⟨b6, 0, none⟩ = some (.int .i64 ((k : Int) + 1)) ∧ W9.cell? ⟨b6, 1, none⟩ = some (.string (hashB r)) ∧ W9.cell? ⟨b6, 2, none⟩ = some (.int .i64 1) ∧ W9.cell? ⟨b6, 3, none⟩ = some (.int .i64 1) ∧ W9.cell? ⟨b6, 4, none⟩ = some (.slice none 0 0) ∧ W9.cell? ⟨b6, 5, none⟩ = some (.string ⟨#[]⟩)) := ⟨(HR9.out).at_ (i := 0) rfl, (HR9.out).at_ (i := 1) rfl, (HR9.out).at_ (i := 2) rfl, (HR9.out).at_ (i := 3) rfl, (HR9.out).at_ (i := 4) rfl, (HR9.out).at_ (i := 5) rfl⟩
          obtain ⟨x0, x1, x2, x3, x4, x5⟩ := HB9.out
          have Ho10 : Hid ((W9.alloc (.cells #[.int .i64 ((k : Int) + 1), .string (hashB r), .int .i64 1, .int .i64 1, .slice none 0 0, .string ⟨#[]⟩] 26)).ownsRow w.heap.size 26 6 (.slice (some ⟨g, o, none⟩) k c9) k (bv (manyR k))) := Mb.own_keep Ho9.out (gb_alloc (gb_refl _ _) _)
          have hgs : w.heap.size ≤ (W9.alloc (.cells #[.int .i64 ((k : Int) + 1), .string (hashB r), .int .i64 1, .int .i64 1, .slice none 0 0, .string ⟨#[]⟩] 26)).heap.size := (gb_alloc Hg9.out _).size
          go_wp2_with (at_builtin; go_must (refine wpList_append_own_at _ rfl (.tmp 39) (.tmp 41) 22 rfl w.heap.size 26 i0 (.agg #[.int .i64 0, .string ⟨#[]⟩, .int .i64 0, .int .i64 0, .slice none 0 0, .string ⟨#[]⟩]) 6 80 Tryz.underlying22 Hi0.out Hz0.out Hz1.out Hz2.out rfl (by decide) _ k _ rfl Ho10.out ⟨W9.heap.size, 0, none⟩ 1 1 [.int .i64 ((k : Int) + 1), .string (hashB r), .int .i64 1, .int .i64 1, .slice none 0 0, .string ⟨#[]⟩] rfl rfl (World.news_of_block (cs := #[.int .i64 ((k : Int) + 1), .string (hashB r), .int .i64 1, .int .i64 1, .slice none 0 0, .string ⟨#[]⟩]) (t := 26) (fr := (0, 0)) (heap_alloc_new W9 _)) (bv1_one ⟨(k : Int) + 1, (hashB r), 1, 1, [], ⟨#[]⟩⟩) (by have := HK.out; have := Hlt.out; simp only [maxLen]; omega) (by have := HK.out; have := Hlt.out; omega) hgs ?_); intro v8 w8 own8 hgrow _ _; have Hown8 := Lib.hid own8; have Hg8 := Lib.hid (gb_step (gb_alloc Hg9.out _) hgrow (fun i e => .inr (Ho10.out.lt i e).1)); clear own8 hgrow)
          go_roundw
          case rel =>
            refine ⟨k + 1, _, rfl, by have := Hlt.out; omega, rfl, ?_, Hg8.out⟩
            rw [HNx.out, bv_append]
            exact Hown8.out
          case measure => simp [intOf]; have := Hlt.out; omega
    · have hkK : k = K := by omega
      subst hkK
      have d1 : decide (k < k) = false := by simp
      have d2 : decide ((k : Int) < (k : Int)) = false := by simp
      obtain ⟨A9, c9, rfl, hLL, _⟩ := own_log Ho.out (many_len k) many_bare
      have Hg := Lib.hid hg
      have HLL := Lib.hid hLL
      obtain ⟨m, hm⟩ : ∃ m : Int, a1 % 7 = m := ⟨_, rfl⟩
      have hm1 : 0 ≤ m ∧ m < 7 := by rw [← hm]; omega
      obtain ⟨d9, hd9⟩ : ∃ d9 : Int, 1 + m = d9 := ⟨_, rfl⟩
      have Hd9 : Hid (d9 ≠ 0) := by show _ ≠ _; omega
      have t0 : IntKind.i64.wrap a1 = a1 := by rw [IntKind.wrap_i64]; have := Hn1.out; omega
      have t1 : a1.tmod 7 = m := by rw [Int.tmod_eq_emod_of_nonneg Hn1.out.1, hm]
      have t2 : IntKind.i64.wrap m = m := by rw [IntKind.wrap_i64]; omega
      have t3 : IntKind.i64.wrap d9 = d9 := by rw [IntKind.wrap_i64]; omega
      have hmm := hd9
      clear hlt hk hg hLL hm hm1 hd9
      go_upto_region 14 with fail
      obtain ⟨b9, hb9⟩ : ∃ b9, wr.heap.size = b9 := ⟨_, rfl⟩
      obtain ⟨W9, hW9⟩ : ∃ W9, wr.alloc (.cells #[.int .i64 1, .string ⟨#[]⟩, .int .i64 1, .int .i64 d9, .slice none 0 0, .string ⟨#[]⟩] 26) = W9 := ⟨_, rfl⟩
      have hr9 : Row W9 b9 26 #[.int .i64 1, .string ⟨#[]⟩, .int .i64 1, .int .i64 d9, .slice none 0 0, .string ⟨#[]⟩] := by rw [← hW9, ← hb9]; exact Row.new _ _ _
      have HB9 : Hid (∀ W, W9.grownBy W none → W.cell? ⟨b9, 0, none⟩ = some (.int .i64 1) ∧ W.cell? ⟨b9, 1, none⟩ = some (.string ⟨#[]⟩) ∧ W.cell? ⟨b9, 2, none⟩ = some (.int .i64 1) ∧ W.cell? ⟨b9, 3, none⟩ = some (.int .i64 d9) ∧ W.cell? ⟨b9, 4, none⟩ = some (.slice none 0 0) ∧ W.cell? ⟨b9, 5, none⟩ = some (.string ⟨#[]⟩)) := fun W hW => ⟨(hr9.kept hW (by simp)).at_ (i := 0) rfl, (hr9.kept hW (by simp)).at_ (i := 1) rfl, (hr9.kept hW (by simp)).at_ (i := 2) rfl, (hr9.kept hW (by simp)).at_ (i := 3) rfl, (hr9.kept hW (by simp)).at_ (i := 4) rfl, (hr9.kept hW (by simp)).at_ (i := 5) rfl⟩
      have HU9 : Hid (wr.grownBy W9 none) := by rw [← hW9]; exact gb_alloc (gb_refl _ _) _
      have HG9 : Hid (w.grownBy W9 none) := gb_none Hg.out HU9.out
      rw [hb9, hW9]
      clear hb9 hW9 hr9
      clear t0 t1 t2 t3 d1 d2 hmm
      go_upto_region 15 with fail
      obtain ⟨b10, hb10⟩ : ∃ b10, W9.heap.size = b10 := ⟨_, rfl⟩
      obtain ⟨W10, hW10⟩ : ∃ W10, W9.alloc (.cells #[.int .i64 1, .string ⟨#[]⟩, .int .i64 2, .int .i64 0, .slice none 0 0, .string ⟨#[]⟩] 26) = W10 := ⟨_, rfl⟩
      have hr10 : Row W10 b10 26 #[.int .i64 1, .string ⟨#[]⟩, .int .i64 2, .int .i64 0, .slice none 0 0, .string ⟨#[]⟩] := by rw [← hW10, ← hb10]; exact Row.new _ _ _
      have HB10 : Hid (∀ W, W10.grownBy W none → W.cell? ⟨b10, 0, none⟩ = some (.int .i64 1) ∧ W.cell? ⟨b10, 1, none⟩ = some (.string ⟨#[]⟩) ∧ W.cell? ⟨b10, 2, none⟩ = some (.int .i64 2) ∧ W.cell? ⟨b10, 3, none⟩ = some (.int .i64 0) ∧ W.cell? ⟨b10, 4, none⟩ = some (.slice none 0 0) ∧ W.cell? ⟨b10, 5, none⟩ = some (.string ⟨#[]⟩)) := fun W hW => ⟨(hr10.kept hW (by simp)).at_ (i := 0) rfl, (hr10.kept hW (by simp)).at_ (i := 1) rfl, (hr10.kept hW (by simp)).at_ (i := 2) rfl, (hr10.kept hW (by simp)).at_ (i := 3) rfl, (hr10.kept hW (by simp)).at_ (i := 4) rfl, (hr10.kept hW (by simp)).at_ (i := 5) rfl⟩
      have HU10 : Hid (W9.grownBy W10 none) := by rw [← hW10]; exact gb_alloc (gb_refl _ _) _
      have HG10 : Hid (w.grownBy W10 none) := gb_none HG9.out HU10.out
      rw [hb10, hW10]
      clear hb10 hW10 hr10
      go_upto_region 16 with fail
      obtain ⟨b11, hb11⟩ : ∃ b11, W10.heap.size = b11 := ⟨_, rfl⟩
      obtain ⟨W11, hW11⟩ : ∃ W11, W10.alloc (.cells #[.int .i64 1, .string ⟨#[]⟩, .int .i64 1, .int .i64 0, .slice none 0 0, .string ⟨#[]⟩] 26) = W11 := ⟨_, rfl⟩
      have hr11 : Row W11 b11 26 #[.int .i64 1, .string ⟨#[]⟩, .int .i64 1, .int .i64 0, .slice none 0 0, .string ⟨#[]⟩] := by rw [← hW11, ← hb11]; exact Row.new _ _ _
      have HB11 : Hid (∀ W, W11.grownBy W none → W.cell? ⟨b11, 0, none⟩ = some (.int .i64 1) ∧ W.cell? ⟨b11, 1, none⟩ = some (.string ⟨#[]⟩) ∧ W.cell? ⟨b11, 2, none⟩ = some (.int .i64 1) ∧ W.cell? ⟨b11, 3, none⟩ = some (.int .i64 0) ∧ W.cell? ⟨b11, 4, none⟩ = some (.slice none 0 0) ∧ W.cell? ⟨b11, 5, none⟩ = some (.string ⟨#[]⟩)) := fun W hW => ⟨(hr11.kept hW (by simp)).at_ (i := 0) rfl, (hr11.kept hW (by simp)).at_ (i := 1) rfl, (hr11.kept hW (by simp)).at_ (i := 2) rfl, (hr11.kept hW (by simp)).at_ (i := 3) rfl, (hr11.kept hW (by simp)).at_ (i := 4) rfl, (hr11.kept hW (by simp)).at_ (i := 5) rfl⟩
      have HU11 : Hid (W10.grownBy W11 none) := by rw [← hW11]; exact gb_alloc (gb_refl _ _) _
      have HG11 : Hid (w.grownBy W11 none) := gb_none HG10.out HU11.out
      rw [hb11, hW11]
      clear hb11 hW11 hr11
      obtain ⟨Q, hQ⟩ : ∃ Q, hashB firstR = Q := ⟨_, rfl⟩
      obtain ⟨PP, hPP⟩ : ∃ PP, recB firstR = PP := ⟨_, rfl⟩
      have HQP : Hid (Hh.sumB PP = Q) := by rw [← hPP, ← hQ]; rfl
      have HPsz : Hid (PP.size ≤ 2000) := by rw [← hPP]; exact recB_size
      have HHf : Hid (∀ W, w.grownBy W none → Calls Tryz.prog 17 #[.agg #[.int .i64 1, .string ⟨#[]⟩, .int .i64 1, .int .i64 0, .slice none 0 0, .string ⟨#[]⟩]] W fun e w' => e = .returned (.string Q) ∧ W.grownBy w' none) := fun W hW => by rw [← hQ]; exact hash_any firstR none 0 W (WL.none _ _) (by decide) (HR.out.keep hW).1
      have HPf : Hid (∀ W, Calls Tryz.prog 14 #[.agg #[.int .i64 1, .string ⟨#[]⟩, .int .i64 1, .int .i64 0, .slice none 0 0, .string ⟨#[]⟩]] W fun e w' => e = .returned (.string PP) ∧ W.grownBy w' none) := fun W => by rw [← hPP]; exact Mb.put_any firstR none 0 W (WL.none _ _) (by decide)
      have HSf : Hid (∀ W, Calls Tryz.prog 18 #[.string PP] W fun e w' => e = .returned (.string Q) ∧ W.grownBy w' none) := fun W => by rw [← HQP.out]; exact Hh.refSum_any PP W (by have := HPsz.out; omega)
      clear hQ hPP
      obtain ⟨x0, x1, x2, x3, x4, x5⟩ := HB11.out W11 (gb_refl _ _)
      go_wp2_with fail
      refine (HHf.out W11 HG11.out).mono ?_
      rintro e v11 ⟨rfl, g⟩
      have HV11 := Lib.hid g
      have HGv11 := Lib.hid (gb_none HG11.out g)
      clear g x0 x1 x2 x3 x4 x5
      go_upto_region 17 with fail
      obtain ⟨b12, hb12⟩ : ∃ b12, v11.heap.size = b12 := ⟨_, rfl⟩
      obtain ⟨W12, hW12⟩ : ∃ W12, v11.alloc (.cells #[.int .i64 2, .string Q, .int .i64 2, .int .i64 0, .slice none 0 0, .string ⟨#[]⟩] 26) = W12 := ⟨_, rfl⟩
      have hr12 : Row W12 b12 26 #[.int .i64 2, .string Q, .int .i64 2, .int .i64 0, .slice none 0 0, .string ⟨#[]⟩] := by rw [← hW12, ← hb12]; exact Row.new _ _ _
      have HB12 : Hid (∀ W, W12.grownBy W none → W.cell? ⟨b12, 0, none⟩ = some (.int .i64 2) ∧ W.cell? ⟨b12, 1, none⟩ = some (.string Q) ∧ W.cell? ⟨b12, 2, none⟩ = some (.int .i64 2) ∧ W.cell? ⟨b12, 3, none⟩ = some (.int .i64 0) ∧ W.cell? ⟨b12, 4, none⟩ = some (.slice none 0 0) ∧ W.cell? ⟨b12, 5, none⟩ = some (.string ⟨#[]⟩)) := fun W hW => ⟨(hr12.kept hW (by simp)).at_ (i := 0) rfl, (hr12.kept hW (by simp)).at_ (i := 1) rfl, (hr12.kept hW (by simp)).at_ (i := 2) rfl, (hr12.kept hW (by simp)).at_ (i := 3) rfl, (hr12.kept hW (by simp)).at_ (i := 4) rfl, (hr12.kept hW (by simp)).at_ (i := 5) rfl⟩
      have HU12 : Hid (v11.grownBy W12 none) := by rw [← hW12]; exact gb_alloc (gb_refl _ _) _
      have HG12 : Hid (w.grownBy W12 none) := gb_none HGv11.out HU12.out
      rw [hb12, hW12]
      clear hb12 hW12 hr12
      have H11_12 : Hid (W11.grownBy W12 none) := gb_none HV11.out HU12.out
      obtain ⟨x0, x1, x2, x3, x4, x5⟩ := HB11.out W12 H11_12.out
      go_wp2_with fail
      refine (HHf.out W12 HG12.out).mono ?_
      rintro e v12 ⟨rfl, g⟩
      have HV12 := Lib.hid g
      have HGv12 := Lib.hid (gb_none HG12.out g)
      clear g x0 x1 x2 x3 x4 x5
      go_upto_region 18 with fail
      obtain ⟨b13, hb13⟩ : ∃ b13, v12.heap.size = b13 := ⟨_, rfl⟩
      obtain ⟨W13, hW13⟩ : ∃ W13, v12.alloc (.cells #[.int .i64 2, .string Q, .int .i64 1, .int .i64 0, .slice none 0 0, .string ⟨#[]⟩] 26) = W13 := ⟨_, rfl⟩
      have hr13 : Row W13 b13 26 #[.int .i64 2, .string Q, .int .i64 1, .int .i64 0, .slice none 0 0, .string ⟨#[]⟩] := by rw [← hW13, ← hb13]; exact Row.new _ _ _
      have HB13 : Hid (∀ W, W13.grownBy W none → W.cell? ⟨b13, 0, none⟩ = some (.int .i64 2) ∧ W.cell? ⟨b13, 1, none⟩ = some (.string Q) ∧ W.cell? ⟨b13, 2, none⟩ = some (.int .i64 1) ∧ W.cell? ⟨b13, 3, none⟩ = some (.int .i64 0) ∧ W.cell? ⟨b13, 4, none⟩ = some (.slice none 0 0) ∧ W.cell? ⟨b13, 5, none⟩ = some (.string ⟨#[]⟩)) := fun W hW => ⟨(hr13.kept hW (by simp)).at_ (i := 0) rfl, (hr13.kept hW (by simp)).at_ (i := 1) rfl, (hr13.kept hW (by simp)).at_ (i := 2) rfl, (hr13.kept hW (by simp)).at_ (i := 3) rfl, (hr13.kept hW (by simp)).at_ (i := 4) rfl, (hr13.kept hW (by simp)).at_ (i := 5) rfl⟩
      have HU13 : Hid (v12.grownBy W13 none) := by rw [← hW13]; exact gb_alloc (gb_refl _ _) _
      have HG13 : Hid (w.grownBy W13 none) := gb_none HGv12.out HU13.out
      rw [hb13, hW13]
      clear hb13 hW13 hr13
      have H12_13 : Hid (W12.grownBy W13 none) := gb_none HV12.out HU13.out
      have H11_13 : Hid (W11.grownBy W13 none) := gb_none H11_12.out H12_13.out
      have H10_13 : Hid (W10.grownBy W13 none) := gb_none HU11.out H11_13.out
      have H9_13 : Hid (W9.grownBy W13 none) := gb_none HU10.out H10_13.out
      have HR13 : Hid (∀ W, W13.grownBy W none → Rdy W) := fun W hW => HR.out.keep (gb_none HG13.out hW)
      obtain ⟨qk, hqk⟩ : ∃ qk, decide (k ≤ 40) = qk := ⟨_, rfl⟩
      have e1 : decide ((k : Int) ≤ 40) = qk := by rw [← hqk]; by_cases h : k ≤ 40 <;> simp [h] <;> omega
      have HCk : Hid (∀ W, W13.grownBy W none → Calls Tryz.prog 10 #[.slice A9 k c9] W fun e w' => e = .returned (.bool qk) ∧ W.grownBy w' none) := fun W hW => by
        refine (check_log A9 k c9 (manyR k) W (HLL.out.keep (gb_none HU9.out (gb_none H9_13.out hW))) (bare_len many_bare) (HR13.out W hW).1 (HR13.out W hW).2.1).mono fun e w' hh => ?_
        have hc := many_chain (k := k) (by have := HK.out; omega)
        rw [← hqk]
        by_cases h : k ≤ 40
        · rw [decide_eq_true h]; exact hh.yes (hc.2 h)
        · rw [decide_eq_false h]; exact hh.no (fun x => h (hc.1 x))
      have Hqq : Hid (∀ W, (binOp .eql 4 (.bool qk) (.bool qk)).run Tryz.prog W = .ok (.bool true) W) := fun W => by cases qk <;> rfl
      have He1 := Lib.hid e1
      clear hqk e1
      have HCo : Hid (∀ W g, W13.grownBy W none → Row W g 26 #[.int .i64 1, .string ⟨#[]⟩, .int .i64 1, .int .i64 d9, .slice none 0 0, .string ⟨#[]⟩] → Calls Tryz.prog 10 #[.slice (some ⟨g, 0, none⟩) 1 1] W fun e w' => e = .returned (.bool false) ∧ W.grownBy w' none) := fun W g hW hr => (check_bare [⟨1, ⟨#[]⟩, 1, d9, [], ⟨#[]⟩⟩] g 1 W (HR13.out W hW) hr (one_bare rfl) rfl).mono fun _ _ h => h.no (not_other (fun h => Hd9.out h.2))
      have HCn : Hid (∀ W g, W13.grownBy W none → Row W g 26 #[.int .i64 1, .string ⟨#[]⟩, .int .i64 2, .int .i64 0, .slice none 0 0, .string ⟨#[]⟩] → Calls Tryz.prog 10 #[.slice (some ⟨g, 0, none⟩) 1 1] W fun e w' => e = .returned (.bool false) ∧ W.grownBy w' none) := fun W g hW hr => (check_bare [⟨1, ⟨#[]⟩, 2, 0, [], ⟨#[]⟩⟩] g 1 W (HR13.out W hW) hr (one_bare rfl) rfl).mono fun _ _ h => h.no (not_other (fun h => absurd (show (2 : Int) = 1 from h.1) (by decide)))
      have HCg : Hid (∀ W g, W13.grownBy W none → Row W g 26 #[.int .i64 1, .string ⟨#[]⟩, .int .i64 1, .int .i64 0, .slice none 0 0, .string ⟨#[]⟩, .int .i64 2, .string Q, .int .i64 2, .int .i64 0, .slice none 0 0, .string ⟨#[]⟩] → Calls Tryz.prog 10 #[.slice (some ⟨g, 0, none⟩) 2 2] W fun e w' => e = .returned (.bool false) ∧ W.grownBy w' none) := fun W g hW hr => (check_bare [firstR, ⟨2, Q, 2, 0, [], ⟨#[]⟩⟩] g 2 W (HR13.out W hW) hr (two_bare rfl rfl) rfl).mono fun _ _ h => h.no (not_goes rfl rfl)
      have HCt : Hid (∀ W g, W13.grownBy W none → Row W g 26 #[.int .i64 1, .string ⟨#[]⟩, .int .i64 1, .int .i64 0, .slice none 0 0, .string ⟨#[]⟩, .int .i64 2, .string Q, .int .i64 1, .int .i64 0, .slice none 0 0, .string ⟨#[]⟩] → Calls Tryz.prog 10 #[.slice (some ⟨g, 0, none⟩) 2 2] W fun e w' => e = .returned (.bool false) ∧ W.grownBy w' none) := fun W g hW hr => (check_bare [firstR, ⟨2, Q, 1, 0, [], ⟨#[]⟩⟩] g 2 W (HR13.out W hW) hr (two_bare rfl rfl) rfl).mono fun _ _ h => h.no (not_twice rfl rfl)
      have HHf13 : Hid (∀ W, W13.grownBy W none → Calls Tryz.prog 17 #[.agg #[.int .i64 1, .string ⟨#[]⟩, .int .i64 1, .int .i64 0, .slice none 0 0, .string ⟨#[]⟩]] W fun e w' => e = .returned (.string Q) ∧ W.grownBy w' none) := fun W hW => HHf.out W (gb_none HG13.out hW)
      have HAw13 : Hid (∀ W, W13.grownBy W none → Calls Tryz.prog 9 #[] W fun e w' => e = .returned (.bool true) ∧ W.grownBy w' none) := fun W hW => HAw.out W (gb_none HG13.out hW)
      apply wp_region_told (le := fun a b => a.grownBy b none) [isV _, isV _, isV _, isV _, isV _, isV _, isV _, newV 1 #[.int .i64 1, .string ⟨#[]⟩, .int .i64 1, .int .i64 d9, .slice none 0 0, .string ⟨#[]⟩], isV _, isV _, isV _, isV _, isV _, newV 1 #[.int .i64 1, .string ⟨#[]⟩, .int .i64 2, .int .i64 0, .slice none 0 0, .string ⟨#[]⟩], isV _, isV _, isV _, isV _, isV _, isV _, newV 2 #[.int .i64 1, .string ⟨#[]⟩, .int .i64 1, .int .i64 0, .slice none 0 0, .string ⟨#[]⟩, .int .i64 2, .string Q, .int .i64 2, .int .i64 0, .slice none 0 0, .string ⟨#[]⟩], isV _, isV _, isV _, isV _, isV _, isV _, newV 2 #[.int .i64 1, .string ⟨#[]⟩, .int .i64 1, .int .i64 0, .slice none 0 0, .string ⟨#[]⟩, .int .i64 2, .string Q, .int .i64 1, .int .i64 0, .slice none 0 0, .string ⟨#[]⟩], isV _, isV _, isV _, isV _, isV _, isV _, isV _, isV _, isV _, isV _, isV _, isV _, isV _, isV _, isV _]
      case hn => rfl
      case hm => kernel_rfl
      case hB => kernel_rfl
      case ht => exact fun _ _ _ h k => gb_none h k
      case hw => exact gb_drew (gb_refl _ _)
      -- 0: law.go:116 move
      apply told_is
      · intro W f hW hE h0 K hK
        have e6 := h0 6 (by kernel_rfl)
        conv at e6 => rhs; whnf
        clear hE h0
        refine yes_of (want_free rfl) ?_
        go_simp; exact hK _ _ (gb_refl _ _) rfl
      -- 1: law.go:116 call
      apply told_is
      · intro W f hW hE h0 K hK
        have e56 : f 56 = _ := hE 0 56 _ rfl (by kernel_rfl)
        clear hE h0
        refine yes_of (want_free rfl) ?_
        go_simp
        refine (HCk.out W hW).mono ?_
        rintro e w1' ⟨rfl, g'⟩
        exact ⟨_, rfl, hK _ _ g' rfl⟩
      -- 2: law.go:116 move
      apply told_is
      · intro W f hW hE h0 K hK
        have e5 := h0 5 (by kernel_rfl)
        conv at e5 => rhs; whnf
        clear hE h0
        refine yes_of (want_free rfl) ?_
        go_simp; exact hK _ _ (gb_refl _ _) rfl
      -- 3: law.go:116 binOp
      apply told_is
      · intro W f hW hE h0 K hK
        have e58 : f 58 = _ := hE 0 58 _ rfl (by kernel_rfl)
        clear hE h0
        refine yes_of (want_free rfl) ?_
        have q1 := He1.out
        go_simp; exact hK _ _ (gb_refl _ _) rfl
      -- 4: law.go:116 binOp
      apply told_is
      · intro W f hW hE h0 K hK
        have e57 : f 57 = _ := hE 2 57 _ rfl (by kernel_rfl)
        have e59 : f 59 = _ := hE 0 59 _ rfl (by kernel_rfl)
        clear hE h0
        refine yes_of (want_free rfl) ?_
        have q1 := Hqq.out W
        go_simp; exact hK _ _ (gb_refl _ _) rfl
      -- 5: law.go:116 move
      apply told_is
      · intro W f hW hE h0 K hK
        have e60 : f 60 = _ := hE 0 60 _ rfl (by kernel_rfl)
        clear hE h0
        refine yes_of (want_free rfl) ?_
        go_simp; exact hK _ _ (gb_refl _ _) rfl
      -- 6: law.go:116 load
      apply told_is
      · intro W f hW hE h0 K hK
        have e9 := h0 9 (by kernel_rfl)
        conv at e9 => rhs; whnf
        have e61 : f 61 = _ := hE 0 61 _ rfl (by kernel_rfl)
        clear hE h0
        refine yes_of (want_yes rfl rfl e61) ?_
        obtain ⟨x0, x1, x2, x3, x4, x5⟩ := HB9.out W (gb_none H9_13.out hW)
        go_simp; exact hK _ _ (gb_refl _ _) rfl
      -- 7: law.go:116 buildSlice
      apply told_at newV_stays
      · intro W f hW hE h0 K hK
        have e62 : f 62 = _ := hE 0 62 _ rfl (by kernel_rfl)
        have e61 : f 61 = _ := hE 1 61 _ rfl (by kernel_rfl)
        clear hE h0
        refine yes_of (want_yes rfl rfl e61) ?_
        go_simp
        exact hK _ _ (gb_alloc (gb_refl _ _) _) ⟨_, rfl, Row.new _ _ _⟩
      -- 8: law.go:116 call
      apply told_is
      · intro W f hW hE h0 K hK
        have e63 := hE 0 63 _ rfl (by kernel_rfl)
        have e61 : f 61 = _ := hE 2 61 _ rfl (by kernel_rfl)
        clear hE h0
        refine yes_of (want_yes rfl rfl e61) ?_
        obtain ⟨g3, e63, hr3⟩ := e63
        go_simp
        refine (HCo.out W g3 hW hr3).mono ?_
        rintro e w1' ⟨rfl, g'⟩
        exact ⟨_, rfl, hK _ _ g' rfl⟩
      -- 9: law.go:116 unOp
      apply told_is
      · intro W f hW hE h0 K hK
        have e64 : f 64 = _ := hE 0 64 _ rfl (by kernel_rfl)
        have e61 : f 61 = _ := hE 3 61 _ rfl (by kernel_rfl)
        clear hE h0
        refine yes_of (want_yes rfl rfl e61) ?_
        go_simp; exact hK _ _ (gb_refl _ _) rfl
      -- 10: law.go:116 pick
      apply told_is
      · intro W f hW hE h0 K hK
        have e61 : f 61 = _ := hE 4 61 _ rfl (by kernel_rfl)
        have e65 : f 65 = _ := hE 0 65 _ rfl (by kernel_rfl)
        clear hE h0
        refine yes_of (want_free rfl) ?_
        go_simp; exact hK _ _ (gb_refl _ _) rfl
      -- 11: law.go:116 move
      apply told_is
      · intro W f hW hE h0 K hK
        have e66 : f 66 = _ := hE 0 66 _ rfl (by kernel_rfl)
        clear hE h0
        refine yes_of (want_free rfl) ?_
        go_simp; exact hK _ _ (gb_refl _ _) rfl
      -- 12: law.go:116 load
      apply told_is
      · intro W f hW hE h0 K hK
        have e10 := h0 10 (by kernel_rfl)
        conv at e10 => rhs; whnf
        have e67 : f 67 = _ := hE 0 67 _ rfl (by kernel_rfl)
        clear hE h0
        refine yes_of (want_yes rfl rfl e67) ?_
        obtain ⟨x0, x1, x2, x3, x4, x5⟩ := HB10.out W (gb_none H10_13.out hW)
        go_simp; exact hK _ _ (gb_refl _ _) rfl
      -- 13: law.go:116 buildSlice
      apply told_at newV_stays
      · intro W f hW hE h0 K hK
        have e68 : f 68 = _ := hE 0 68 _ rfl (by kernel_rfl)
        have e67 : f 67 = _ := hE 1 67 _ rfl (by kernel_rfl)
        clear hE h0
        refine yes_of (want_yes rfl rfl e67) ?_
        go_simp
        exact hK _ _ (gb_alloc (gb_refl _ _) _) ⟨_, rfl, Row.new _ _ _⟩
      -- 14: law.go:116 call
      apply told_is
      · intro W f hW hE h0 K hK
        have e69 := hE 0 69 _ rfl (by kernel_rfl)
        have e67 : f 67 = _ := hE 2 67 _ rfl (by kernel_rfl)
        clear hE h0
        refine yes_of (want_yes rfl rfl e67) ?_
        obtain ⟨g3, e69, hr3⟩ := e69
        go_simp
        refine (HCn.out W g3 hW hr3).mono ?_
        rintro e w1' ⟨rfl, g'⟩
        exact ⟨_, rfl, hK _ _ g' rfl⟩
      -- 15: law.go:116 unOp
      apply told_is
      · intro W f hW hE h0 K hK
        have e70 : f 70 = _ := hE 0 70 _ rfl (by kernel_rfl)
        have e67 : f 67 = _ := hE 3 67 _ rfl (by kernel_rfl)
        clear hE h0
        refine yes_of (want_yes rfl rfl e67) ?_
        go_simp; exact hK _ _ (gb_refl _ _) rfl
      -- 16: law.go:116 pick
      apply told_is
      · intro W f hW hE h0 K hK
        have e67 : f 67 = _ := hE 4 67 _ rfl (by kernel_rfl)
        have e71 : f 71 = _ := hE 0 71 _ rfl (by kernel_rfl)
        clear hE h0
        refine yes_of (want_free rfl) ?_
        go_simp; exact hK _ _ (gb_refl _ _) rfl
      -- 17: law.go:116 move
      apply told_is
      · intro W f hW hE h0 K hK
        have e72 : f 72 = _ := hE 0 72 _ rfl (by kernel_rfl)
        clear hE h0
        refine yes_of (want_free rfl) ?_
        go_simp; exact hK _ _ (gb_refl _ _) rfl
      -- 18: law.go:116 load
      apply told_is
      · intro W f hW hE h0 K hK
        have e11 := h0 11 (by kernel_rfl)
        conv at e11 => rhs; whnf
        have e73 : f 73 = _ := hE 0 73 _ rfl (by kernel_rfl)
        clear hE h0
        refine yes_of (want_yes rfl rfl e73) ?_
        obtain ⟨x0, x1, x2, x3, x4, x5⟩ := HB11.out W (gb_none H11_13.out hW)
        go_simp; exact hK _ _ (gb_refl _ _) rfl
      -- 19: law.go:116 load
      apply told_is
      · intro W f hW hE h0 K hK
        have e12 := h0 12 (by kernel_rfl)
        conv at e12 => rhs; whnf
        have e73 : f 73 = _ := hE 1 73 _ rfl (by kernel_rfl)
        clear hE h0
        refine yes_of (want_yes rfl rfl e73) ?_
        obtain ⟨x0, x1, x2, x3, x4, x5⟩ := HB12.out W (gb_none H12_13.out hW)
        go_simp; exact hK _ _ (gb_refl _ _) rfl
      -- 20: law.go:116 buildSlice
      apply told_at newV_stays
      · intro W f hW hE h0 K hK
        have e74 : f 74 = _ := hE 1 74 _ rfl (by kernel_rfl)
        have e75 : f 75 = _ := hE 0 75 _ rfl (by kernel_rfl)
        have e73 : f 73 = _ := hE 2 73 _ rfl (by kernel_rfl)
        clear hE h0
        refine yes_of (want_yes rfl rfl e73) ?_
        go_simp
        exact hK _ _ (gb_alloc (gb_refl _ _) _) ⟨_, rfl, Row.new _ _ _⟩
      -- 21: law.go:116 call
      apply told_is
      · intro W f hW hE h0 K hK
        have e76 := hE 0 76 _ rfl (by kernel_rfl)
        have e73 : f 73 = _ := hE 3 73 _ rfl (by kernel_rfl)
        clear hE h0
        refine yes_of (want_yes rfl rfl e73) ?_
        obtain ⟨g3, e76, hr3⟩ := e76
        go_simp
        refine (HCg.out W g3 hW hr3).mono ?_
        rintro e w1' ⟨rfl, g'⟩
        exact ⟨_, rfl, hK _ _ g' rfl⟩
      -- 22: law.go:116 unOp
      apply told_is
      · intro W f hW hE h0 K hK
        have e77 : f 77 = _ := hE 0 77 _ rfl (by kernel_rfl)
        have e73 : f 73 = _ := hE 4 73 _ rfl (by kernel_rfl)
        clear hE h0
        refine yes_of (want_yes rfl rfl e73) ?_
        go_simp; exact hK _ _ (gb_refl _ _) rfl
      -- 23: law.go:116 pick
      apply told_is
      · intro W f hW hE h0 K hK
        have e73 : f 73 = _ := hE 5 73 _ rfl (by kernel_rfl)
        have e78 : f 78 = _ := hE 0 78 _ rfl (by kernel_rfl)
        clear hE h0
        refine yes_of (want_free rfl) ?_
        go_simp; exact hK _ _ (gb_refl _ _) rfl
      -- 24: law.go:116 move
      apply told_is
      · intro W f hW hE h0 K hK
        have e79 : f 79 = _ := hE 0 79 _ rfl (by kernel_rfl)
        clear hE h0
        refine yes_of (want_free rfl) ?_
        go_simp; exact hK _ _ (gb_refl _ _) rfl
      -- 25: law.go:116 load
      apply told_is
      · intro W f hW hE h0 K hK
        have e11 := h0 11 (by kernel_rfl)
        conv at e11 => rhs; whnf
        have e80 : f 80 = _ := hE 0 80 _ rfl (by kernel_rfl)
        clear hE h0
        refine yes_of (want_yes rfl rfl e80) ?_
        obtain ⟨x0, x1, x2, x3, x4, x5⟩ := HB11.out W (gb_none H11_13.out hW)
        go_simp; exact hK _ _ (gb_refl _ _) rfl
      -- 26: law.go:116 load
      apply told_is
      · intro W f hW hE h0 K hK
        have e13 := h0 13 (by kernel_rfl)
        conv at e13 => rhs; whnf
        have e80 : f 80 = _ := hE 1 80 _ rfl (by kernel_rfl)
        clear hE h0
        refine yes_of (want_yes rfl rfl e80) ?_
        obtain ⟨x0, x1, x2, x3, x4, x5⟩ := HB13.out W hW
        go_simp; exact hK _ _ (gb_refl _ _) rfl
      -- 27: law.go:116 buildSlice
      apply told_at newV_stays
      · intro W f hW hE h0 K hK
        have e81 : f 81 = _ := hE 1 81 _ rfl (by kernel_rfl)
        have e82 : f 82 = _ := hE 0 82 _ rfl (by kernel_rfl)
        have e80 : f 80 = _ := hE 2 80 _ rfl (by kernel_rfl)
        clear hE h0
        refine yes_of (want_yes rfl rfl e80) ?_
        go_simp
        exact hK _ _ (gb_alloc (gb_refl _ _) _) ⟨_, rfl, Row.new _ _ _⟩
      -- 28: law.go:116 call
      apply told_is
      · intro W f hW hE h0 K hK
        have e83 := hE 0 83 _ rfl (by kernel_rfl)
        have e80 : f 80 = _ := hE 3 80 _ rfl (by kernel_rfl)
        clear hE h0
        refine yes_of (want_yes rfl rfl e80) ?_
        obtain ⟨g3, e83, hr3⟩ := e83
        go_simp
        refine (HCt.out W g3 hW hr3).mono ?_
        rintro e w1' ⟨rfl, g'⟩
        exact ⟨_, rfl, hK _ _ g' rfl⟩
      -- 29: law.go:116 unOp
      apply told_is
      · intro W f hW hE h0 K hK
        have e84 : f 84 = _ := hE 0 84 _ rfl (by kernel_rfl)
        have e80 : f 80 = _ := hE 4 80 _ rfl (by kernel_rfl)
        clear hE h0
        refine yes_of (want_yes rfl rfl e80) ?_
        go_simp; exact hK _ _ (gb_refl _ _) rfl
      -- 30: law.go:116 pick
      apply told_is
      · intro W f hW hE h0 K hK
        have e80 : f 80 = _ := hE 5 80 _ rfl (by kernel_rfl)
        have e85 : f 85 = _ := hE 0 85 _ rfl (by kernel_rfl)
        clear hE h0
        refine yes_of (want_free rfl) ?_
        go_simp; exact hK _ _ (gb_refl _ _) rfl
      -- 31: law.go:116 move
      apply told_is
      · intro W f hW hE h0 K hK
        have e86 : f 86 = _ := hE 0 86 _ rfl (by kernel_rfl)
        clear hE h0
        refine yes_of (want_free rfl) ?_
        go_simp; exact hK _ _ (gb_refl _ _) rfl
      -- 32: law.go:116 load
      apply told_is
      · intro W f hW hE h0 K hK
        have e11 := h0 11 (by kernel_rfl)
        conv at e11 => rhs; whnf
        have e87 : f 87 = _ := hE 0 87 _ rfl (by kernel_rfl)
        clear hE h0
        refine yes_of (want_yes rfl rfl e87) ?_
        obtain ⟨x0, x1, x2, x3, x4, x5⟩ := HB11.out W (gb_none H11_13.out hW)
        go_simp; exact hK _ _ (gb_refl _ _) rfl
      -- 33: law.go:116 call
      apply told_is
      · intro W f hW hE h0 K hK
        have e88 : f 88 = _ := hE 0 88 _ rfl (by kernel_rfl)
        have e87 : f 87 = _ := hE 1 87 _ rfl (by kernel_rfl)
        clear hE h0
        refine yes_of (want_yes rfl rfl e87) ?_
        go_simp
        refine (HPf.out W).mono ?_
        rintro e w1' ⟨rfl, g'⟩
        exact ⟨_, rfl, hK _ _ g' rfl⟩
      -- 34: law.go:116 call
      apply told_is
      · intro W f hW hE h0 K hK
        have e89 : f 89 = _ := hE 0 89 _ rfl (by kernel_rfl)
        have e87 : f 87 = _ := hE 2 87 _ rfl (by kernel_rfl)
        clear hE h0
        refine yes_of (want_yes rfl rfl e87) ?_
        go_simp
        refine (HSf.out W).mono ?_
        rintro e w1' ⟨rfl, g'⟩
        exact ⟨_, rfl, hK _ _ g' rfl⟩
      -- 35: law.go:116 load
      apply told_is
      · intro W f hW hE h0 K hK
        have e11 := h0 11 (by kernel_rfl)
        conv at e11 => rhs; whnf
        have e87 : f 87 = _ := hE 3 87 _ rfl (by kernel_rfl)
        clear hE h0
        refine yes_of (want_yes rfl rfl e87) ?_
        obtain ⟨x0, x1, x2, x3, x4, x5⟩ := HB11.out W (gb_none H11_13.out hW)
        go_simp; exact hK _ _ (gb_refl _ _) rfl
      -- 36: law.go:116 call
      apply told_is
      · intro W f hW hE h0 K hK
        have e91 : f 91 = _ := hE 0 91 _ rfl (by kernel_rfl)
        have e87 : f 87 = _ := hE 4 87 _ rfl (by kernel_rfl)
        clear hE h0
        refine yes_of (want_yes rfl rfl e87) ?_
        go_simp
        refine (HHf13.out W hW).mono ?_
        rintro e w1' ⟨rfl, g'⟩
        exact ⟨_, rfl, hK _ _ g' rfl⟩
      -- 37: law.go:116 binOp
      apply told_is
      · intro W f hW hE h0 K hK
        have e90 : f 90 = _ := hE 2 90 _ rfl (by kernel_rfl)
        have e92 : f 92 = _ := hE 0 92 _ rfl (by kernel_rfl)
        have e87 : f 87 = _ := hE 5 87 _ rfl (by kernel_rfl)
        clear hE h0
        refine yes_of (want_yes rfl rfl e87) ?_
        have q1 : (Q.toList == Q.toList) = true := str_eq rfl
        go_simp; exact hK _ _ (gb_refl _ _) rfl
      -- 38: law.go:116 pick
      apply told_is
      · intro W f hW hE h0 K hK
        have e87 : f 87 = _ := hE 6 87 _ rfl (by kernel_rfl)
        have e93 : f 93 = _ := hE 0 93 _ rfl (by kernel_rfl)
        clear hE h0
        refine yes_of (want_free rfl) ?_
        go_simp; exact hK _ _ (gb_refl _ _) rfl
      -- 39: law.go:116 move
      apply told_is
      · intro W f hW hE h0 K hK
        have e94 : f 94 = _ := hE 0 94 _ rfl (by kernel_rfl)
        clear hE h0
        refine yes_of (want_free rfl) ?_
        go_simp; exact hK _ _ (gb_refl _ _) rfl
      -- 40: law.go:116 call
      apply told_is
      · intro W f hW hE h0 K hK
        have e95 : f 95 = _ := hE 0 95 _ rfl (by kernel_rfl)
        clear hE h0
        refine yes_of (want_yes rfl rfl e95) ?_
        go_simp
        refine (HAw13.out W hW).mono ?_
        rintro e w1' ⟨rfl, g'⟩
        exact ⟨_, rfl, hK _ _ g' rfl⟩
      -- 41: law.go:116 pick
      apply told_is
      · intro W f hW hE h0 K hK
        have e95 : f 95 = _ := hE 1 95 _ rfl (by kernel_rfl)
        have e96 : f 96 = _ := hE 0 96 _ rfl (by kernel_rfl)
        clear hE h0
        refine yes_of (want_free rfl) ?_
        go_simp; exact hK _ _ (gb_refl _ _) rfl
      -- 42: law.go:116 assign
      apply told_is
      · intro W f hW hE h0 K hK
        have e97 : f 97 = _ := hE 0 97 _ rfl (by kernel_rfl)
        clear hE h0
        refine yes_of (want_free rfl) ?_
        go_simp; exact hK _ _ (gb_refl _ _) rfl
      intro W f hW hA
      simp only [lexIn, Act.put, List.setIfInBounds_toArray, List.set_cons_zero, List.set_cons_succ]
      have e4 : f 4 = _ := hA 0 (some 4) _ rfl
      rw [e4]
      clear hA
      have HgE := Lib.hid (gb_none HG13.out hW)
      clear hW
      go_wp2_with fail
      go_ret
      exact ⟨rfl, gb_below HgE.out (Nat.le_refl _)⟩

theorem star : "*" ++ "errors.errorString" = "*errors.errorString" := by decide
theorem row_err (u : TypeId) (h : Tryz.prog.typeName? 3 u = some "*errors.errorString") : u = 168 :=
  typeName_ptr_named (nm := "errors.errorString") (by rw [star]; kernel_rfl) (by kernel_rfl) (by decide) u (by rw [star]; exact h)
theorem two0_1 {W : World} (h : laidMetH Tryz.prog Rows.memberManyRow.laid W) : Sn.Two W 0 1 := by
  have h4 : laidMet Tryz.prog [("deaddrop/member.errMany", Rows.laid_deaddrop_member_errMany), ("deaddrop/member.errRecord", Rows.laid_deaddrop_member_errRecord)] W := (laidMetH_iff.1 (laidMetH.filter (fun x => x.1 == "deaddrop/member.errMany" || x.1 == "deaddrop/member.errRecord") h)).1
  obtain ⟨a0, a1, s0, s1, c0, c1, t0, t1, hv0, hv1, hc0, hs0, hz0, hc1, hs1, hz1, hne, hb0, hb1⟩ := laid_sentinels2 h4 (g0 := 0) (g1 := 1) (ti := 45) (by kernel_rfl) (by kernel_rfl) (by kernel_rfl) (by kernel_rfl) Tryz.underlying45 row_err Tryz.underlying168 Tryz.underlying187 rfl rfl Tryz.underlying9 (by kernel_rfl) (by kernel_rfl)
  exact ⟨a0, a1, c0, c1, t0, t1, by simpa using World.var?_cell (g := 0) (by kernel_rfl) hv0 0, by simpa using World.var?_cell (g := 1) (by kernel_rfl) hv1 0, hne, hb0, hb1⟩
theorem two2_3 {W : World} (h : laidMetH Tryz.prog Rows.memberManyRow.laid W) : Sn.Two W 2 3 := by
  have h4 : laidMet Tryz.prog [("deaddrop/member.errSeq", Rows.laid_deaddrop_member_errSeq), ("deaddrop/member.errPrev", Rows.laid_deaddrop_member_errPrev)] W := (laidMetH_iff.1 (laidMetH.filter (fun x => x.1 == "deaddrop/member.errSeq" || x.1 == "deaddrop/member.errPrev") h)).1
  obtain ⟨a0, a1, s0, s1, c0, c1, t0, t1, hv0, hv1, hc0, hs0, hz0, hc1, hs1, hz1, hne, hb0, hb1⟩ := laid_sentinels2 h4 (g0 := 2) (g1 := 3) (ti := 45) (by kernel_rfl) (by kernel_rfl) (by kernel_rfl) (by kernel_rfl) Tryz.underlying45 row_err Tryz.underlying168 Tryz.underlying187 rfl rfl Tryz.underlying9 (by kernel_rfl) (by kernel_rfl)
  exact ⟨a0, a1, c0, c1, t0, t1, by simpa using World.var?_cell (g := 2) (by kernel_rfl) hv0 0, by simpa using World.var?_cell (g := 3) (by kernel_rfl) hv1 0, hne, hb0, hb1⟩
theorem two4_5 {W : World} (h : laidMetH Tryz.prog Rows.memberManyRow.laid W) : Sn.Two W 4 5 := by
  have h4 : laidMet Tryz.prog [("deaddrop/member.errFirst", Rows.laid_deaddrop_member_errFirst), ("deaddrop/member.errHave", Rows.laid_deaddrop_member_errHave)] W := (laidMetH_iff.1 (laidMetH.filter (fun x => x.1 == "deaddrop/member.errFirst" || x.1 == "deaddrop/member.errHave") h)).1
  obtain ⟨a0, a1, s0, s1, c0, c1, t0, t1, hv0, hv1, hc0, hs0, hz0, hc1, hs1, hz1, hne, hb0, hb1⟩ := laid_sentinels2 h4 (g0 := 4) (g1 := 5) (ti := 45) (by kernel_rfl) (by kernel_rfl) (by kernel_rfl) (by kernel_rfl) Tryz.underlying45 row_err Tryz.underlying168 Tryz.underlying187 rfl rfl Tryz.underlying9 (by kernel_rfl) (by kernel_rfl)
  exact ⟨a0, a1, c0, c1, t0, t1, by simpa using World.var?_cell (g := 4) (by kernel_rfl) hv0 0, by simpa using World.var?_cell (g := 5) (by kernel_rfl) hv1 0, hne, hb0, hb1⟩
theorem two6_7 {W : World} (h : laidMetH Tryz.prog Rows.memberManyRow.laid W) : Sn.Two W 6 7 := by
  have h4 : laidMet Tryz.prog [("deaddrop/member.errNone", Rows.laid_deaddrop_member_errNone), ("deaddrop/member.errStay", Rows.laid_deaddrop_member_errStay)] W := (laidMetH_iff.1 (laidMetH.filter (fun x => x.1 == "deaddrop/member.errNone" || x.1 == "deaddrop/member.errStay") h)).1
  obtain ⟨a0, a1, s0, s1, c0, c1, t0, t1, hv0, hv1, hc0, hs0, hz0, hc1, hs1, hz1, hne, hb0, hb1⟩ := laid_sentinels2 h4 (g0 := 6) (g1 := 7) (ti := 45) (by kernel_rfl) (by kernel_rfl) (by kernel_rfl) (by kernel_rfl) Tryz.underlying45 row_err Tryz.underlying168 Tryz.underlying187 rfl rfl Tryz.underlying9 (by kernel_rfl) (by kernel_rfl)
  exact ⟨a0, a1, c0, c1, t0, t1, by simpa using World.var?_cell (g := 6) (by kernel_rfl) hv0 0, by simpa using World.var?_cell (g := 7) (by kernel_rfl) hv1 0, hne, hb0, hb1⟩
theorem et : Tryz.prog.globalNamed "errors.errorType" = some 9 := by kernel_rfl
theorem rt : (Tryz.prog.cutTypes.find? (·.1 == "internal/reflectlite.rtype")).map (·.2) = some 126 := by kernel_rfl
theorem one_error : ((List.range 198).filter fun t => Tryz.prog.rowNamed t [101, 114, 114, 111, 114]) = [45] := by kernel_rfl
theorem how_many : Tryz.prog.types.size = 198 := by kernel_rfl
theorem handle : typeHandle Tryz.prog 45 = .pointer (some ⟨12, 45, none⟩) := by kernel_rfl
theorem errT {W : World} (h : laidMetH Tryz.prog Rows.memberManyRow.laid W) : W.cell? ⟨9, 0, none⟩ = some (.iface 126 (.agg #[.pointer (some ⟨12, 45, none⟩)])) := by
  have hm : ("errors.errorType", Rows.laid_errors_errorType) ∈ (Rows.memberManyRow.laid.filter fun x => x.2.handleName?.isSome) := List.mem_filter.2 ⟨List.Mem.tail _ (List.Mem.tail _ (List.Mem.head _)), by simp [DataW.handleName?, Rows.laid_errors_errorType]⟩
  obtain ⟨n, u, t, hn, hu, ht, hr, hc⟩ := (laidMetH_iff.1 h).2 _ hm
  obtain rfl := Option.some.inj hn
  obtain rfl := Option.some.inj (rt.symm.trans hu)
  have hin : t ∈ [45] := by
    rw [← one_error]
    exact List.mem_filter.2 ⟨List.mem_range.2 (how_many ▸ ht), hr⟩
  obtain rfl := List.mem_singleton.1 hin
  rw [handle] at hc
  have := World.var?_cell et hc 0
  simpa using this
theorem tabs {W : World} (h : laidMetH Tryz.prog Rows.memberManyRow.laid W) : Tabs W := by
  have gh1 : laidMet Tryz.prog [("deaddrop/sha.opening", Rows.laid_deaddrop_sha_opening)] W := (laidMetH_iff.1 (laidMetH.filter (fun x => x.1 == "deaddrop/sha.opening") h)).1
  have h1 : Lib.TabIs Tryz.prog W "deaddrop/sha.opening" .u32 [1779033703, 3144134277, 1013904242, 2773480762, 1359893119, 2600822924, 528734635, 1541459225] := Lib.tabIs_of_head (rest := []) (g := 8) (t := 96) (e := 59) (n := 8) (by kernel_rfl) (by kernel_rfl) Tryz.underlying96 Tryz.underlying59 (by kernel_rfl) (by kernel_rfl) gh1
  have gh2 : laidMet Tryz.prog [("deaddrop/sha.roundNumbers", Rows.laid_deaddrop_sha_roundNumbers)] W := (laidMetH_iff.1 (laidMetH.filter (fun x => x.1 == "deaddrop/sha.roundNumbers") h)).1
  have h2 : Lib.TabIs Tryz.prog W "deaddrop/sha.roundNumbers" .u32 [1116352408, 1899447441, 3049323471, 3921009573, 961987163, 1508970993, 2453635748, 2870763221, 3624381080, 310598401, 607225278, 1426881987, 1925078388, 2162078206, 2614888103, 3248222580, 3835390401, 4022224774, 264347078, 604807628, 770255983, 1249150122, 1555081692, 1996064986, 2554220882, 2821834349, 2952996808, 3210313671, 3336571891, 3584528711, 113926993, 338241895, 666307205, 773529912, 1294757372, 1396182291, 1695183700, 1986661051, 2177026350, 2456956037, 2730485921, 2820302411, 3259730800, 3345764771, 3516065817, 3600352804, 4094571909, 275423344, 430227734, 506948616, 659060556, 883997877, 958139571, 1322822218, 1537002063, 1747873779, 1955562222, 2024104815, 2227730452, 2361852424, 2428436474, 2756734187, 3204031479, 3329325298] := Lib.tabIs_of_head (rest := []) (g := 10) (t := 156) (e := 59) (n := 64) (by kernel_rfl) (by kernel_rfl) Tryz.underlying156 Tryz.underlying59 (by kernel_rfl) (by kernel_rfl) gh2
  have e1 : ∀ i, i < 8 → ([1779033703, 3144134277, 1013904242, 2773480762, 1359893119, 2600822924, 528734635, 1541459225] : List Int).getD i 0 = ((firstH.getD i 0).toNat : Int) := by decide
  have e2 : ∀ i, i < 64 → ([1116352408, 1899447441, 3049323471, 3921009573, 961987163, 1508970993, 2453635748, 2870763221, 3624381080, 310598401, 607225278, 1426881987, 1925078388, 2162078206, 2614888103, 3248222580, 3835390401, 4022224774, 264347078, 604807628, 770255983, 1249150122, 1555081692, 1996064986, 2554220882, 2821834349, 2952996808, 3210313671, 3336571891, 3584528711, 113926993, 338241895, 666307205, 773529912, 1294757372, 1396182291, 1695183700, 1986661051, 2177026350, 2456956037, 2730485921, 2820302411, 3259730800, 3345764771, 3516065817, 3600352804, 4094571909, 275423344, 430227734, 506948616, 659060556, 883997877, 958139571, 1322822218, 1537002063, 1747873779, 1955562222, 2024104815, 2227730452, 2361852424, 2428436474, 2756734187, 3204031479, 3329325298] : List Int).getD i 0 = ((konst.getD i 0).toNat : Int) := by decide +kernel
  have c1 : ∀ i, i < 8 → W.cell? ⟨8, i, none⟩ = some (w32 (firstH.getD i 0)) := fun i hi => by
    have := h1.cell (g := 8) (by kernel_rfl) i hi
    rw [e1 i hi] at this; exact this
  have c2 : ∀ i, i < 64 → W.cell? ⟨10, i, none⟩ = some (w32 (konst.getD i 0)) := fun i hi => by
    have := h2.cell (g := 10) (by kernel_rfl) i hi
    rw [e2 i hi] at this; exact this
  exact ⟨block_lt_of_cell (c2 0 (by decide)), c1, c2⟩

set_option maxRecDepth 100000 in
theorem contract (H : Type) (enc : TypeId × Value → H) (W : World) (base : Nat) (args : Array Value) (ds gs : List (DataW H)) (before : List MemPlace)
    (hval0 : ∀ (j : Nat) t v, Tryz.f5.params[j]? = some t → args[j]? = some v → Value.okWide Tryz.prog W .any base t v)
    (hW : DataW.Whole enc Tryz.prog Tryz.f5.params.toList Rows.memberManySpec.vars false W args.toList ds gs before) (hL : laidMetH Tryz.prog Rows.memberManyRow.laid W) :
    Calls Tryz.prog 5 args W fun e W' => ∃ v, e = .returned v ∧ Rows.memberManySpec.post enc Tryz.prog Tryz.f5 false true false false W args v W' := by
  have hval : ∀ (j : Nat) t v, Tryz.f5.params[j]? = some t → args[j]? = some v → Value.okWide Tryz.prog W .any base t v := hval0
  have hW' := hW
  obtain ⟨p, q, hA0, hV, rfl, hfz, hnd⟩ := hW
  have hA : DataW.TrodAll enc Tryz.prog W 0 (fun _ => true) true Tryz.f5.params.toList args.toList ds p := hA0
  rw [Tryz.params5] at hA hval
  obtain ⟨v0, vs0, d0, ds0, p0, q0, hargs, rfl, rfl, h0, r0⟩ := trodAll_cons hA
  obtain ⟨v1, vs1, d1, ds1, p1, q1, rfl, rfl, rfl, h1, r1⟩ := trodAll_cons r0
  obtain ⟨rfl, rfl, rfl⟩ := trodAll_nil r1
  obtain rfl : args = #[v0, v1] := by cases args; simp_all
  obtain ⟨rfl, rfl⟩ := trodVars_none hV
  obtain ⟨a0, rfl, rfl, rfl, w0⟩ := open_int Tryz.underlying5 (hval 0 5 v0 rfl rfl) h0
  obtain ⟨a1, rfl, rfl, rfl, w1⟩ := open_int Tryz.underlying5 (hval 1 5 v1 rfl rfl) h1
  clear hA0 hval0
  refine (walk a0 a1 W w0 w1 ⟨two0_1 hL, two2_3 hL, two4_5 hL, two6_7 hL⟩ (errT hL) (tabs hL)).mono fun e W' ⟨he, bel⟩ => ?_
  subst he
  exact ⟨_, rfl, _, _, _, [], _, [], hW', trodAll_mk1 (shut_bool Tryz.underlying4 _), (trodAll_cons_mk (shut_int Tryz.underlying5 w0) (trodAll_cons_mk (shut_int Tryz.underlying5 w1) trodAll_mk0)), rfl, bel.frame _, fun h => by cases h⟩

def lay (cs : Array Value) : Obj → Obj
  | .cells _ t frozen => .cells cs t frozen
  | o => o
noncomputable def low : Nat := (World.holding Tryz.prog default ⟨#[], #[], []⟩).heap.size
noncomputable def laidWorld (os : Os) : World :=
  { World.holding Tryz.prog os ⟨#[.cells #[.string ⟨#[109, 111, 114, 101, 32, 116, 104, 97, 110, 32, 97, 32, 99, 104, 97, 105, 110, 32, 109, 97, 121, 32, 104, 97, 118, 101]⟩] 187, .cells #[.string ⟨#[105, 116, 32, 109, 97, 121, 32, 110, 111, 116, 32, 98, 101]⟩] 187, .cells #[.string ⟨#[110, 111, 116, 32, 116, 104, 101, 32, 111, 110, 101, 32, 98, 101, 104, 105, 110, 100, 32, 116, 104, 101, 32, 111, 110, 101, 32, 97, 104, 101, 97, 100]⟩] 187, .cells #[.string ⟨#[97, 110, 111, 116, 104, 101, 114, 32, 114, 101, 99, 111, 114, 100, 39, 115, 32, 104, 97, 115, 104, 32, 116, 104, 97, 110, 32, 116, 104, 97, 116, 32, 111, 102, 32, 116, 104, 101, 32, 111, 110, 101, 32, 97, 104, 101, 97, 100]⟩] 187, .cells #[.string ⟨#[116, 104, 101, 32, 102, 105, 114, 115, 116, 32, 114, 101, 99, 111, 114, 100, 32, 97, 100, 100, 115, 32, 100, 101, 118, 105, 99, 101, 32, 48]⟩] 187, .cells #[.string ⟨#[97, 100, 100, 101, 100, 32, 119, 104, 105, 108, 101, 32, 105, 116, 32, 105, 115, 32, 97, 32, 109, 101, 109, 98, 101, 114]⟩] 187, .cells #[.string ⟨#[114, 101, 118, 111, 107, 101, 100, 32, 119, 104, 105, 108, 101, 32, 105, 116, 32, 105, 115, 32, 110, 111, 32, 109, 101, 109, 98, 101, 114]⟩] 187, .cells #[.string ⟨#[105, 116, 32, 115, 116, 97, 121, 115, 32, 102, 111, 114, 32, 103, 111, 111, 100]⟩] 187], #[], []⟩ with heap := ((((((((((((World.holding Tryz.prog os ⟨#[.cells #[.string ⟨#[109, 111, 114, 101, 32, 116, 104, 97, 110, 32, 97, 32, 99, 104, 97, 105, 110, 32, 109, 97, 121, 32, 104, 97, 118, 101]⟩] 187, .cells #[.string ⟨#[105, 116, 32, 109, 97, 121, 32, 110, 111, 116, 32, 98, 101]⟩] 187, .cells #[.string ⟨#[110, 111, 116, 32, 116, 104, 101, 32, 111, 110, 101, 32, 98, 101, 104, 105, 110, 100, 32, 116, 104, 101, 32, 111, 110, 101, 32, 97, 104, 101, 97, 100]⟩] 187, .cells #[.string ⟨#[97, 110, 111, 116, 104, 101, 114, 32, 114, 101, 99, 111, 114, 100, 39, 115, 32, 104, 97, 115, 104, 32, 116, 104, 97, 110, 32, 116, 104, 97, 116, 32, 111, 102, 32, 116, 104, 101, 32, 111, 110, 101, 32, 97, 104, 101, 97, 100]⟩] 187, .cells #[.string ⟨#[116, 104, 101, 32, 102, 105, 114, 115, 116, 32, 114, 101, 99, 111, 114, 100, 32, 97, 100, 100, 115, 32, 100, 101, 118, 105, 99, 101, 32, 48]⟩] 187, .cells #[.string ⟨#[97, 100, 100, 101, 100, 32, 119, 104, 105, 108, 101, 32, 105, 116, 32, 105, 115, 32, 97, 32, 109, 101, 109, 98, 101, 114]⟩] 187, .cells #[.string ⟨#[114, 101, 118, 111, 107, 101, 100, 32, 119, 104, 105, 108, 101, 32, 105, 116, 32, 105, 115, 32, 110, 111, 32, 109, 101, 109, 98, 101, 114]⟩] 187, .cells #[.string ⟨#[105, 116, 32, 115, 116, 97, 121, 115, 32, 102, 111, 114, 32, 103, 111, 111, 100]⟩] 187], #[], []⟩).heap).modify 0 (lay #[.iface 168 (.pointer (some ⟨low, 0, none⟩))])).modify 1 (lay #[.iface 168 (.pointer (some ⟨low + 1, 0, none⟩))])).modify 2 (lay #[.iface 168 (.pointer (some ⟨low + 2, 0, none⟩))])).modify 3 (lay #[.iface 168 (.pointer (some ⟨low + 3, 0, none⟩))])).modify 4 (lay #[.iface 168 (.pointer (some ⟨low + 4, 0, none⟩))])).modify 5 (lay #[.iface 168 (.pointer (some ⟨low + 5, 0, none⟩))])).modify 6 (lay #[.iface 168 (.pointer (some ⟨low + 6, 0, none⟩))])).modify 7 (lay #[.iface 168 (.pointer (some ⟨low + 7, 0, none⟩))])).modify 9 (lay #[.iface 126 (.agg #[.pointer (some ⟨12, 45, none⟩)])])).modify 8 (lay #[.int .u32 1779033703, .int .u32 3144134277, .int .u32 1013904242, .int .u32 2773480762, .int .u32 1359893119, .int .u32 2600822924, .int .u32 528734635, .int .u32 1541459225])).modify 10 (lay #[.int .u32 1116352408, .int .u32 1899447441, .int .u32 3049323471, .int .u32 3921009573, .int .u32 961987163, .int .u32 1508970993, .int .u32 2453635748, .int .u32 2870763221, .int .u32 3624381080, .int .u32 310598401, .int .u32 607225278, .int .u32 1426881987, .int .u32 1925078388, .int .u32 2162078206, .int .u32 2614888103, .int .u32 3248222580, .int .u32 3835390401, .int .u32 4022224774, .int .u32 264347078, .int .u32 604807628, .int .u32 770255983, .int .u32 1249150122, .int .u32 1555081692, .int .u32 1996064986, .int .u32 2554220882, .int .u32 2821834349, .int .u32 2952996808, .int .u32 3210313671, .int .u32 3336571891, .int .u32 3584528711, .int .u32 113926993, .int .u32 338241895, .int .u32 666307205, .int .u32 773529912, .int .u32 1294757372, .int .u32 1396182291, .int .u32 1695183700, .int .u32 1986661051, .int .u32 2177026350, .int .u32 2456956037, .int .u32 2730485921, .int .u32 2820302411, .int .u32 3259730800, .int .u32 3345764771, .int .u32 3516065817, .int .u32 3600352804, .int .u32 4094571909, .int .u32 275423344, .int .u32 430227734, .int .u32 506948616, .int .u32 659060556, .int .u32 883997877, .int .u32 958139571, .int .u32 1322822218, .int .u32 1537002063, .int .u32 1747873779, .int .u32 1955562222, .int .u32 2024104815, .int .u32 2227730452, .int .u32 2361852424, .int .u32 2428436474, .int .u32 2756734187, .int .u32 3204031479, .int .u32 3329325298]) }
theorem laid_met (os : Os) : laidMetH Tryz.prog Rows.memberManyRow.laid ((laidWorld os).forCall (fun _ _ => 0) ⟨#[], #[.int .u8 0, .int .u8 0], []⟩).memory :=
  laidMetH_of_parts (laidMet_of_run' 8 (by kernel_rfl) (by kernel_rfl)) (by kernel_rfl)
theorem reads (os : Os) {H : Type} (enc : TypeId × Value → H) : ∃ places, DataW.whole enc Tryz.prog ((laidWorld os).forCall (fun _ _ => 0) ⟨#[], #[.int .u8 0, .int .u8 0], []⟩).memory Tryz.f5.params.toList Rows.memberManySpec.vars false (show Array Value from #[.int .u8 0, .int .u8 0]).toList 8 = some ([.lit (.int .u8 0), .lit (.int .u8 0)], [], places) :=
  ⟨[], by kernel_rfl⟩

set_option maxRecDepth 100000 in
theorem lifted (os : Os) (started : os.Started) (H : Type) (enc : TypeId × Value → H) (F : Stop.Interp) :
    ReturnsInHanded {} Tryz.checked os 5 .any ((OpenSpec.ofChange Rows.memberManySpec).preRow enc Tryz.prog Tryz.f5 Rows.memberManyRow.domain false Rows.memberManyRow.laid) (((OpenSpec.ofChange Rows.memberManySpec).at F).post enc Tryz.prog Tryz.f5 false true false false) := by
  obtain ⟨places, hx⟩ := reads os enc
  refine returnsInHanded_of_row (C := Tryz.checked) (s := OpenSpec.ofChange Rows.memberManySpec) own started (by kernel_rfl) Tryz.func5
    (witness_row_at (enc := enc) (C := Tryz.checked) false (laidWorld os) #[.int .u8 0, .int .u8 0] rfl (by kernel_rfl) (by kernel_rfl) (by kernel_rfl)
      (OpenSpec.preRow_of_cond 8 hx (by kernel_rfl) (fun k hk => by cases hk) (by kernel_rfl) (laid_met os))) ?_
  intro W base args ds gs before hval hW _ _ _ hL _ _
  exact contract H enc W base args ds gs before hval hW hL

theorem said : Rows.MemberManySaid :=
  OpenClaim.holds_of_cond 5 Tryz.f5 rfl rfl rfl rfl rfl rfl rfl ⟨rfl, rfl, rfl, rfl, rfl⟩ rfl rfl rfl rfl rfl (by kernel_rfl) Tryz.func5 (by kernel_rfl)
    (of_decide_eq_true (by kernel_rfl)) (by unfold Func.isWrapper; first | (rw [if_pos (by decide +kernel)]; kernel_rfl) | (rw [if_neg (by decide +kernel)]; exact ⟨rfl, rfl⟩))
    (fun os started H enc _ F => by rw [OpenClaim.pre_eq_preRow]; exact lifted os started H enc F)

theorem plain (f : FuncId) (fn : Func) (hf : Tryz.pinned.checked.prog.funcNamed "deaddrop/deaddroplaw15.MemberMany" = some f) (hfn : Tryz.pinned.checked.prog.funcs[f]? = some fn) :
    true = Tryz.pinned.checked.prog.looks [] ∧ ∀ (j : Nat) t, fn.params[j]? = some t → Tryz.pinned.checked.prog.wantsStandIn t = false := by
  obtain rfl : f = 5 := Option.some.inj ((show Tryz.prog.funcNamed "deaddrop/deaddroplaw15.MemberMany" = some 5 by kernel_rfl).symm.trans hf) |>.symm
  obtain rfl : fn = Tryz.f5 := (Option.some.inj (Tryz.func5.symm.trans hfn)).symm
  refine ⟨by kernel_rfl, fun j t ht => ?_⟩
  have hall : (Tryz.f5.params.toList.all fun u => !Tryz.prog.wantsStandIn u) = true := by kernel_rfl
  have hm : t ∈ Tryz.f5.params.toList := by simpa using Array.mem_of_getElem? ht
  exact (show Tryz.prog.wantsStandIn t = false by simpa using List.all_eq_true.1 hall t hm)

theorem card : Rows.MemberManyCardSaid :=
  Claim7.holds_tied_plain_at .later [] _ _ _ _ said (fun _ h => by cases h) (by kernel_rfl) (fun _ h => by cases h) memberMany_row_tie rfl ⟨rfl, rfl⟩ (by kernel_rfl) rfl plain (by kernel_rfl)
#print axioms card
end Go.Proofs.YtdlafgkiddhejaaGreatDoor.memberMany
