/- Stage 13's laws: the bytes of a state, awake. Written by gen_snlaw.py. -/
import Derived.Test.YthijiefopcnclaaGreatDoorSnGet
import Derived.Test.YthijiefopcnclaaGreatDoorFtD
set_option linter.unusedVariables false
namespace Go.Proofs.YthijiefopcnclaaGreatDoor.Dt
open Go Go.RowKit Go.Proofs.YthijiefopcnclaaGreatDoor.Mm Go.Proofs.YthijiefopcnclaaGreatDoor.Td Go.Proofs.YthijiefopcnclaaGreatDoor.Vw

theorem nl_pair (w : World) (x y : Int) (t : TypeId) (hx : 0 ≤ x ∧ x ≤ 255) (hy : 0 ≤ y ∧ y ≤ 255) : NL (w.alloc (.cells #[.int .u8 x, .int .u8 y] t)) (some ⟨w.heap.size, 0, none⟩) 2 [x, y] := by
  have hr := Row.new w t #[.int .u8 x, .int .u8 y]
  refine ⟨rfl, fun _ => ⟨w.heap.size, 0, rfl, hr.lt, fun i r h => ?_⟩, fun q hq => ?_⟩
  · have hi : i = 0 ∨ i = 1 := by have := (List.getElem?_eq_some_iff.1 h).1; simp at this; omega
    rcases hi with rfl | rfl
    · obtain rfl : x = r := by simpa using h
      exact hr.at_ (i := 0) rfl
    · obtain rfl : y = r := by simpa using h
      exact hr.at_ (i := 1) rfl
  · simp only [List.mem_cons, List.not_mem_nil, or_false] at hq
    rcases hq with rfl | rfl <;> assumption
theorem putB_data {s : St} (h : Puts s) : (stW s).bytes.data.toList = (stW s).enc := by rw [put_bytes h]
theorem putB_size {s : St} (h : Puts s) : (stW s).bytes.size = 15 + 32 * s.seen.length + sizeF s.facts := by
  rw [← data_len, putB_data h, put_size]
theorem putB_is {s : St} (h : Puts s) : IsPut (stW s).bytes.data.toList s := ⟨h, putB_data h⟩
theorem putB_short {s : St} (h : Puts s) (hp : s.seen.length ≤ 10000) : (stW s).bytes.data.toList.length ≤ 1099511627776 := by
  rw [putB_data h]; exact st_len h.1 hp
theorem putB_none {s : St} (h : Puts s) : (stW s).bytes.size ≠ 0 := by rw [putB_size h]; omega
/-- What deeds made. -/
theorem make_puts (ns : List Int) (k : Nat) (hk : k ≤ 1000) : Puts (makeK ns k) := ⟨makeK_may ns k, by have := ((makeK_low ns k).short (makeK_may ns k)).1; omega⟩
theorem make_short (ns : List Int) (k : Nat) (hk : k ≤ 40) : (makeK ns k).seen.length ≤ 320 ∧ (makeK ns k).facts.length ≤ 320 := by
  have := (makeK_low ns k).short (makeK_may ns k)
  omega
theorem nil_puts : Puts ⟨[], []⟩ := ⟨⟨⟨fun r hr => (by cases hr), List.Pairwise.nil⟩, (by decide), fun f hf => (by cases hf), List.Pairwise.nil⟩, (by decide)⟩
theorem nil_size : (stW ⟨[], []⟩).bytes.size = 15 := putB_size nil_puts
theorem one_made : (makeK [0, 1] (min (2 / 2) 40)).facts.length = 1 := by decide +kernel
set_option maxHeartbeats 8000000 in
set_option maxRecDepth 100000 in
theorem awake13_any (w : World) (hT : ErrT w) : Calls Tryz.prog 8 #[] w fun e w' => e = .returned (.bool true) ∧ w.grownBy w' none := by
  obtain ⟨s, hs⟩ : ∃ s, makeK [0, 1] (min (2 / 2) 40) = s := ⟨_, rfl⟩
  have HM : Hid (∀ g W, NL W (some ⟨g, 0, none⟩) 2 [0, 1] → Calls Tryz.prog 16 #[.slice (some ⟨g, 0, none⟩) 2 2] W (States s W)) := fun g W h => by
    rw [← hs]; exact make_any (some ⟨g, 0, none⟩) 2 2 [0, 1] W h
  have HP : Hid (Puts s) := by rw [← hs]; exact make_puts _ _ (by decide)
  have HL : Hid (s.seen.length ≤ 320) := by rw [← hs]; exact (make_short _ _ (by decide)).1
  have H1 : Hid (s.facts.length = 1) := by rw [← hs]; exact one_made
  have HT := Lib.hid hT
  clear hs hT
  go_enter Tryz.func8, Tryz.ntmps8
  go_wp2_with fail
  refine (HM.out _ _ (nl_pair _ _ _ _ (by decide) (by decide))).mono ?_
  rintro e w1 ⟨A, n, c, B, m, d, rfl, hsl, _, _, g1⟩
  have Hg1 := Lib.hid (gb_none (gb_alloc (gb_refl w none) _) g1)
  have HSL := Lib.hid hsl
  clear hsl g1
  go_wp2_with fail
  refine (putS_yes A B n c m d s w1 HSL.out HP.out (by rw [← HSL.out.1.1]; have := HL.out; omega)).mono ?_
  rintro e w2 ⟨rfl, g2⟩
  have Hg2 := Lib.hid (gb_none Hg1.out g2)
  obtain ⟨P, hP⟩ : ∃ P, (stW s).bytes = P := ⟨_, rfl⟩
  have HIs : Hid (IsPut P.data.toList s) := by rw [← hP]; exact putB_is HP.out
  have HSh : Hid (P.data.toList.length ≤ 1099511627776) := by rw [← hP]; exact putB_short HP.out (by have := HL.out; omega)
  rw [hP]
  clear hP g2
  go_wp2_with fail
  refine (getS_any P w2 HSh.out (HT.out.keep Hg2.out (by simp))).mono ?_
  rintro e w3 ⟨hres, g3⟩
  have Hg3 := Lib.hid (gb_none Hg2.out g3)
  clear g3
  rcases hres with ⟨t, A2, p2, c2, B2, n2, d2, hP2, rfl, hsl⟩ | ⟨hno, _⟩
  · obtain rfl := put_one HIs.out hP2
    obtain rfl : n2 = 1 := by rw [← hsl.2.1]; exact H1.out
    clear hP2 hsl
    have Hpn : Hid (∀ W, Calls Tryz.prog 11 #[.agg #[.slice none 0 0, .slice none 0 0]] W fun e w' => e = .returned (.string (stW ⟨[], []⟩).bytes) ∧ W.grownBy w' none) := fun W => putS_yes none none 0 0 0 0 ⟨[], []⟩ W ⟨RL.none _ _, FL.none _ _⟩ nil_puts (by decide)
    have hsz := nil_size
    generalize (stW ⟨[], []⟩).bytes = P0 at hsz Hpn
    have Hsz := Lib.hid hsz
    clear hsz
    go_wp2_with fail
    refine (Hpn.out _).mono ?_
    rintro e w4 ⟨rfl, g4⟩
    have hr := (Row.new w3 25 #[.slice A2 p2 c2, .slice B2 1 d2]).kept g4 (by simp)
    have y0 : w4.cell? ⟨w3.heap.size, 0, none⟩ = some (.slice A2 p2 c2) := hr.at_ (i := 0) rfl
    have y1 : w4.cell? ⟨w3.heap.size, 1, none⟩ = some (.slice B2 1 d2) := hr.at_ (i := 1) rfl
    have Hg4 := Lib.hid (gb_none (gb_alloc Hg3.out _) g4)
    have hsz := Hsz.out
    clear hr g4
    go_wp2_with fail
    go_ret
    exact ⟨rfl, Hg4.out⟩
  · exact absurd HIs.out (hno s)
end Go.Proofs.YthijiefopcnclaaGreatDoor.Dt
