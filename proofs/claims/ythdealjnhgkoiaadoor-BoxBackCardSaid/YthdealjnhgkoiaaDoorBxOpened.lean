/- box.opened: what is opened, or why not. -/
import Derived.Test.YthdealjnhgkoiaaDoorBxOpen
import Derived.IntWalk
import Derived.RegionTactic
namespace Go.Proofs.YthdealjnhgkoiaaDoor.Bx
open Go.RowKit Wd Mm

/-- What opened answers: the plain, or an error. -/
def OpenedIs (r : Option ByteArray) (w : World) (e : Ending) (w' : World) : Prop :=
  ((∃ p, r = some p ∧ e = .returned (.tuple #[.string p, .nilIface])) ∨ (r = none ∧ ∃ p n a c t, e = .returned (.tuple #[.string ⟨#[]⟩, refV p n a]) ∧ w'.heap[a.block]? = some (.cells c t (0, 0)))) ∧ w.grownBy w' none

set_option maxHeartbeats 1000000 in
theorem opened_short (key nonce ad s : ByteArray) (w : World) (hk : key.size = 64) (hn : nonce.size = 12) (hs : s.size < 16) (hE : BErrs w) :
    Calls Tryd.prog 16 #[.string key, .string nonce, .string ad, .string s] w fun e w' => ∃ p n a c t, e = .returned (.tuple #[.string ⟨#[]⟩, refV p n a]) ∧ w'.heap[a.block]? = some (.cells c t (0, 0)) ∧ w.grownBy w' none := by
  have hz2 : wrap64 ((s.size : Int) - 16) = (s.size : Int) - 16 := IntWalk.wrap64_in _ ⟨by omega, by omega⟩
  have t1 : decide (wrap64 ((s.size : Int) - 16) < 0) = true := decide_eq_true (by omega)
  clear hz2
  obtain ⟨a, c, t, k, hb⟩ := hE.2.2.1
  have Hb := Lib.hid hb
  have Hk := Lib.hid hk
  have Hn := Lib.hid hn
  clear hk hn hs hE hb
  go_enter Tryd.func16, Tryd.ntmps16
  go_wp2_with fail
  refine (check_ok key nonce _ Hk.out Hn.out).mono ?_
  rintro e w1 ⟨rfl, rfl⟩
  go_wp2_with fail
  go_region
  go_wp2
  refine bodyPost_ret (v := .tuple #[.string ⟨#[]⟩, refV _ _ _]) (by simp [results, Tryd.results16, go_sem]; rfl) rfl ?_
  exact ⟨_, _, a, c, t, rfl, Hb.out, gb_drew (gb_refl _ _)⟩
set_option maxHeartbeats 1000000 in
theorem opened_long (key nonce ad s : ByteArray) (w : World) (hk : key.size = 64) (hn : nonce.size = 12) (hs : 1048592 < s.size) (hs2 : s.size ≤ 9223372036854775807) (hE : BErrs w) :
    Calls Tryd.prog 16 #[.string key, .string nonce, .string ad, .string s] w fun e w' => ∃ p n a c t, e = .returned (.tuple #[.string ⟨#[]⟩, refV p n a]) ∧ w'.heap[a.block]? = some (.cells c t (0, 0)) ∧ w.grownBy w' none := by
  obtain ⟨m, hm⟩ : ∃ m, s.size = m + 16 := ⟨s.size - 16, by omega⟩
  have hz : wrap64 ((s.size : Int) - 16) = (m : Int) := by rw [IntWalk.wrap64_in _ ⟨by omega, by omega⟩]; omega
  have t1 : decide ((m : Int) < 0) = false := decide_eq_false (by omega)
  have t2 : decide (1048576 < (m : Int)) = true := decide_eq_true (by omega)
  clear hs2 hm
  obtain ⟨a, c, t, k, hb⟩ := hE.2.2.2.1
  have Hb := Lib.hid hb
  have Hk := Lib.hid hk
  have Hn := Lib.hid hn
  clear hk hn hs hE hb
  go_enter Tryd.func16, Tryd.ntmps16
  go_wp2_with fail
  refine (check_ok key nonce _ Hk.out Hn.out).mono ?_
  rintro e w1 ⟨rfl, rfl⟩
  go_wp2_with fail
  go_region
  go_wp2
  refine bodyPost_ret (v := .tuple #[.string ⟨#[]⟩, refV _ _ _]) (by simp [results, Tryd.results16, go_sem]; rfl) rfl ?_
  exact ⟨_, _, a, c, t, rfl, Hb.out, gb_drew (gb_refl _ _)⟩
set_option maxHeartbeats 1000000 in
theorem opened_bad (key nonce ad s : ByteArray) (w : World) (h : ¬ (key.size = 64 ∧ nonce.size = 12)) (hE : BErrs w) :
    Calls Tryd.prog 16 #[.string key, .string nonce, .string ad, .string s] w fun e w' => ∃ p n a c t, e = .returned (.tuple #[.string ⟨#[]⟩, refV p n a]) ∧ w'.heap[a.block]? = some (.cells c t (0, 0)) ∧ w.grownBy w' none := by
  go_enter Tryd.func16, Tryd.ntmps16
  go_wp2_with fail
  refine (check_no key nonce _ h hE).mono ?_
  rintro e w1 ⟨p, n, a, c, t, rfl, hb, rfl⟩
  have Hb := Lib.hid hb
  clear hb h hE
  unfold refV
  go_wp2_with fail
  refine bodyPost_ret (v := .tuple #[.string ⟨#[]⟩, refV p n a]) (by simp [results, Tryd.results16, go_sem]; rfl) rfl ?_
  exact ⟨p, n, a, c, t, rfl, Hb.out, gb_refl _ _⟩

set_option maxHeartbeats 1000000 in
theorem opened_fits (key nonce ad s : ByteArray) (m : Nat) (w : World) (hk : key.size = 64) (hn : nonce.size = 12) (hs : s.size = m + 16) (hm : m ≤ 1048576) (ha : ad.size ≤ 549755813888) (hT : Tabs w) (hE : BErrs w) (q : Bool) (hq : q = eqB (s.extract m s.size) (tagB key nonce ad (s.extract 0 m))) (r : Option ByteArray) (hr : r = if q = true then some (xorB key nonce (s.extract 0 m)) else none) :
    Calls Tryd.prog 16 #[.string key, .string nonce, .string ad, .string s] w (OpenedIs r w) := by
  have hz : wrap64 ((s.size : Int) - 16) = (m : Int) := by rw [IntWalk.wrap64_in _ ⟨by omega, by omega⟩]; omega
  have t1 : decide ((m : Int) < 0) = false := decide_eq_false (by omega)
  have t2 : decide (1048576 < (m : Int)) = false := decide_eq_false (by omega)
  have b2 : (m : Int) ≤ (s.size : Int) := by omega
  have b3 : m ≤ s.size := by omega
  have Hk := Lib.hid hk
  have Hn := Lib.hid hn
  have Hs := Lib.hid hs
  have HE := Lib.hid hE
  have HQ := Lib.hid hq
  have HR := Lib.hid hr
  clear hk hn hs hE hq hr
  go_enter Tryd.func16, Tryd.ntmps16
  go_wp2_with fail
  refine (check_ok key nonce _ Hk.out Hn.out).mono ?_
  rintro e w1 ⟨rfl, rfl⟩
  go_wp2_with fail
  go_region
  go_wp2_with fail
  refine (tag_any key nonce ad (s.extract 0 m) _ Hk.out (by have := Hn.out; omega) ha (by rw [ByteArray.size_extract]; omega) (by exact hT.keep (gb_drew (gb_refl w none)) (by simp))).mono ?_
  rintro e w1 ⟨rfl, g1⟩
  replace g1 := gb_none (gb_drew (gb_refl w none)) g1
  have hes : (s.extract m s.size).size ≤ 9223372036854775807 := by rw [ByteArray.size_extract, Hs.out]; omega
  have Hes := Lib.hid hes
  clear hes
  go_wp2_with fail
  refine (equal_any _ _ _ Hes.out).mono ?_
  rintro e w2 ⟨rfl, g2⟩
  rw [← HQ.out]
  have g3 := gb_none g1 g2
  clear g1 g2
  cases q with
  | true =>
    have hx : (s.extract 0 m).size ≤ 9223372036854775807 := by rw [ByteArray.size_extract, Hs.out]; omega
    have Hx := Lib.hid hx
    clear hx
    go_wp2_with fail
    refine (xored_any key nonce (s.extract 0 m) _ Hk.out Hx.out).mono ?_
    rintro e w3 ⟨rfl, g4⟩
    have g5 := gb_none g3 g4
    clear g3 g4
    go_wp2_with fail
    refine bodyPost_ret (v := .tuple #[.string (xorB key nonce (s.extract 0 m)), .nilIface]) (by simp [results, Tryd.results16, go_sem]) rfl ?_
    exact ⟨.inl ⟨_, HR.out, rfl⟩, g5⟩
  | false =>
    obtain ⟨a, c, t, k, hb⟩ := (HE.out.keep g3).2.2.2.2
    have Hb := Lib.hid hb
    clear hb
    go_wp2_with fail
    go_region
    go_wp2
    refine bodyPost_ret (v := .tuple #[.string ⟨#[]⟩, refV _ _ _]) (by simp [results, Tryd.results16, go_sem]; rfl) rfl ?_
    exact ⟨.inr ⟨HR.out, _, _, a, c, t, rfl, Hb.out⟩, gb_drew g3⟩
end Go.Proofs.YthdealjnhgkoiaaDoor.Bx
