/-
  Proved: whatever values of its parameters' types it is called with, deaddroplaw1.ChachaTwice returns true, and each argument reads behind the call as it read before.
  Conditions: none but those of the row itself.
  (The frame round the walk was written by the kit's proof-skeleton.mjs.)
-/
import Derived.Test.YthajddnebambfaaRows
import Derived.WalkKit
import Derived.ProofKit
import Derived.OpenShut
import Derived.ShutString
import Derived.Test.YthajddnebambfaaHelp
import Derived.IntWalk
import Derived.BigQuiet
import Derived.ChangeOld
import Derived.Below
namespace Go.Proofs.Ythajddnebambfaa.chachaTwice
open Go.ChangeShapes Go.WideShapes Go.ChangeAt Go.RowKit
open Go.ChangeMaps (open_string shut_string)
open Go.Proofs.Ythajddnebambfaa.Wd Go.Proofs.Ythajddnebambfaa.Mm
set_option linter.unusedVariables false

theorem own : ownKnob Try.prog.godebug = none := by kernel_rfl
theorem laidOut : laidOutB Try.prog = true := by kernel_rfl

/-- WHAT THE WALK IS TOLD OF A SLICE OF INTEGERS THAT CAME IN: it is nil; or it leads to a row of 'cap' cells, the numbers 'zs' (the first 'len' are its elements, the rest its spare room), each fitting its kind. -/
def IsRow (k : IntKind) (w : World) (a : Option Addr) (len cap : Nat) (zs : List Int) : Prop :=
  (a = none ∧ len = 0 ∧ cap = 0 ∧ zs = []) ∨
  ∃ x, a = some x ∧ len ≤ cap ∧ cap ≤ maxLen ∧ zs.length = cap ∧ (∀ i, i < zs.length → w.cell? (x.add i) = some (.int k (zs.getD i 0))) ∧ ∀ n ∈ zs, (Lit.int k n).wf = true

/-- Turned twice bytes are as before. -/
theorem xb_twice (a b : UInt8) : xb (xb a b) b = a := by
  unfold xb
  rw [UInt8.xor_assoc, UInt8.xor_self, UInt8.xor_zero]
theorem xorS_getD (k n : List UInt8) (c : Int) (bs : List UInt8) (i : Nat) (h : i < bs.length) : (xorS k n c bs).getD i 0 = xb (bs.getD i 0) (keyB k n c i) := by
  rw [List.getD_eq_getElem?_getD, List.getElem?_eq_getElem (by rw [xorS_len]; exact h)]
  simp [xorS]
theorem ext_getD {a b : List UInt8} (hl : a.length = b.length) (h : ∀ i, i < a.length → a.getD i 0 = b.getD i 0) : a = b := by
  apply List.ext_getElem hl
  intro i h1 h2
  have e := h i h1
  rw [List.getD_eq_getElem?_getD, List.getElem?_eq_getElem h1, List.getD_eq_getElem?_getD, List.getElem?_eq_getElem h2] at e
  exact e
theorem xorS_twice (k n : List UInt8) (c : Int) (bs : List UInt8) : xorS k n c (xorS k n c bs) = bs := by
  refine ext_getD (by rw [xorS_len, xorS_len]) (fun i hi => ?_)
  rw [xorS_len, xorS_len] at hi
  rw [xorS_getD _ _ _ _ _ (by rw [xorS_len]; exact hi), xorS_getD _ _ _ _ _ hi, xb_twice]
theorem xorS_drop (k n : List UInt8) (c : Int) (bs : List UInt8) (j : Nat) : xorS k n (c + (j : Int)) (bs.drop (64 * j)) = (xorS k n c bs).drop (64 * j) := by
  refine ext_getD (by rw [xorS_len, List.length_drop, List.length_drop, xorS_len]) (fun i hi => ?_)
  rw [xorS_len, List.length_drop] at hi
  rw [xorS_getD _ _ _ _ _ (by rw [List.length_drop]; exact hi)]
  have h1 : ((xorS k n c bs).drop (64 * j)).getD i 0 = (xorS k n c bs).getD (64 * j + i) 0 := by simp
  have h2 : (bs.drop (64 * j)).getD i 0 = bs.getD (64 * j + i) 0 := by simp
  have hk : keyB k n (c + (j : Int)) i = keyB k n c (64 * j + i) := by
    unfold keyB wsAt ctr
    rw [show (64 * j + i) / 64 = j + i / 64 by omega, show (64 * j + i) % 64 = i % 64 by omega, show c + (j : Int) + ((i / 64 : Nat) : Int) = c + ((j + i / 64 : Nat) : Int) by omega]
  rw [h1, h2, xorS_getD _ _ _ _ _ (by omega), hk]
theorem row_holds {w : World} {g : Nat} {t : TypeId} {l : List UInt8} (h : Row w g t (l.map w8).toArray) : Holds w (some ⟨g, 0, none⟩) l.length l := by
  refine ⟨rfl, fun _ => ⟨g, 0, rfl, h.lt, fun i hi => ?_⟩⟩
  rw [Nat.zero_add]
  refine h.at_ ?_
  simp [hi]
theorem drop_holds {w : World} {g o n k : Nat} {bs : List UInt8} (h : Holds w (some ⟨g, o, none⟩) n bs) (hk : k < n) : Holds w (some ⟨g, o + k, none⟩) (n - k) (bs.drop k) := by
  obtain ⟨g', o', e, hl, hc⟩ := h.2 (by omega)
  cases e
  refine ⟨by rw [List.length_drop, h.1], fun _ => ⟨g, o + k, rfl, hl, fun i hi => ?_⟩⟩
  have := hc (k + i) (by omega)
  rw [Nat.add_assoc, this]
  simp
theorem cut_held {w : World} {A : Option Addr} {n k : Nat} {bs : List UInt8} (h : Holds w A n bs) (hk : k ≤ n) : Holds w (Option.map (fun x => x.add k) A) (n - k) (bs.drop k) := by
  by_cases hlt : k < n
  · obtain ⟨g, o, rfl, _⟩ := h.2 (by omega)
    have hadd : (⟨g, o, none⟩ : Addr).add k = ⟨g, o + k, none⟩ := by unfold Addr.add; split <;> simp_all
    show Holds w (some ((⟨g, o, none⟩ : Addr).add k)) _ _
    rw [hadd]
    exact drop_holds h hlt
  · exact ⟨by rw [List.length_drop, h.1], fun h0 => absurd h0 (by omega)⟩
theorem cut_none {w : World} {A A' : Option Addr} {n k : Nat} {bs : List UInt8} (h : Holds w A n bs) (hk : n ≤ k) : Holds w A' (n - k) (bs.drop k) :=
  ⟨by rw [List.length_drop, h.1], fun h0 => absurd h0 (by omega)⟩
theorem xorA_fit7 (key non : ByteArray) (j : Nat) (bs : List UInt8) (hk : key.size = 32) (hn : non.size = 12) (hj : j ≤ 4) (hb : bs.length ≤ 300) : xorA key non (7 + (j : Int)) bs = xorS key.data.toList non.data.toList (7 + (j : Int)) bs := by
  unfold xorA
  by_cases h0 : bs.length = 0
  · rw [if_pos h0]
    rw [List.eq_nil_of_length_eq_zero h0]; rfl
  · rw [if_neg h0, if_pos]
    simp only [fitsB, decide_eq_true_eq]
    exact ⟨hk, hn, by omega, by omega⟩

set_option maxHeartbeats 40000000 in
set_option maxRecDepth 100000 in
theorem walk (a0 : Option Addr) (len0 cap0 : Nat) (z0 : List Int) (a1 : Option Addr) (len1 cap1 : Nat) (z1 : List Int) (a2 : Option Addr) (len2 cap2 : Nat) (z2 : List Int) (a3 : Int) (w : World) (w0 : IsRow .u8 w a0 len0 cap0 z0) (w1 : IsRow .u8 w a1 len1 cap1 z1) (w2 : IsRow .u8 w a2 len2 cap2 z2) (w3 : (Lit.int .u8 a3).wf = true) :
    Calls Try.prog 6 #[.slice a0 len0 cap0, .slice a1 len1 cap1, .slice a2 len2 cap2, .int .u8 a3] w fun e w' => e = .returned (.bool true) ∧ Below w.heap.size w w' := by
  obtain ⟨hb0, hl0, _⟩ := holds_of_row w0
  obtain ⟨hb1, hl1, _⟩ := holds_of_row w1
  obtain ⟨hb2, hl2, hl2c⟩ := holds_of_row w2
  obtain ⟨hx0, hx1⟩ : 0 ≤ a3 ∧ a3 ≤ 255 := by
    have h1 : IntKind.u8.min = 0 := by decide
    have h2 : IntKind.u8.max = 255 := by decide
    simp only [Lit.wf, h1, h2, Bool.and_eq_true, decide_eq_true_eq] at w3
    exact w3
  clear w0 w1 w2 w3
  generalize bytesOf z0 len0 = b0 at *
  generalize bytesOf z1 len1 = b1 at *
  generalize bytesOf z2 len2 = bs at *
  by_cases h2 : 300 < len2
  · have t2 : decide ((300 : Int) < (len2 : Int)) = true := by simp; omega
    go_enter Try.func6, Try.ntmps6
    go_wp2_with fail
    refine (awake_any _).mono ?_
    rintro e x1 ⟨rfl, g1⟩
    go_wp2_with fail
    go_ret
    exact ⟨rfl, below_of g1⟩
  · have t2 : decide ((300 : Int) < (len2 : Int)) = false := by simp; omega
    go_enter Try.func6, Try.ntmps6
    go_wp2_with fail
    refine (bytes_any a0 len0 cap0 32 b0 _ hb0 hl0 (by omega)).mono ?_
    rintro e y1 ⟨rfl, k1⟩
    go_wp2_with fail
    refine (bytes_any a1 len1 cap1 12 b1 _ (hb1.keep k1) hl1 (by omega)).mono ?_
    rintro e y2 ⟨rfl, k2⟩
    have k := gb_none k1 k2
    have hb := hb2.keep k
    have Hk : Hid ((⟨(bytesS b0 32).toArray⟩ : ByteArray).size = 32) := by show _ = _; rw [← len_data, ba, bytesS_len]
    have Hn : Hid ((⟨(bytesS b1 12).toArray⟩ : ByteArray).size = 12) := by show _ = _; rw [← len_data, ba, bytesS_len]
    generalize (⟨(bytesS b0 32).toArray⟩ : ByteArray) = key at *
    generalize (⟨(bytesS b1 12).toArray⟩ : ByteArray) = non at *
    clear k1 k2 hb0 hb1 hb2
    have hcb := held_string (c := cap2) hb
    have hcb0 := hcb y2 (gb_refl _ _)
    go_wp2_with fail
    refine (xor_any key non 7 a2 len2 cap2 bs _ hl2 hb).mono ?_
    rintro e y3 ⟨v, rfl, k3, t3⟩
    by_cases hz : len2 = 0
    · have hbn : bs = [] := List.eq_nil_of_length_eq_zero (by rw [hb.1]; exact hz)
      have hx : xorA key non 7 bs = [] := by
        unfold xorA
        rw [if_pos (by rw [hb.1]; exact hz)]
      rw [hx] at t3
      obtain rfl : v = .slice none 0 0 := by
        rcases t3 with ⟨_, hv⟩ | ⟨hn, _⟩
        · exact hv
        · exact absurd rfl hn
      have hcb3 := hcb y3 k3
      subst hbn
      subst hz
      clear t3 hx
      go_wp2_with fail
      refine (xor_any key non 7 none 0 0 [] _ (by omega) ⟨rfl, fun h => absurd h (by omega)⟩).mono ?_
      rintro e y4 ⟨v13, rfl, k4, t4⟩
      rw [show xorA key non 7 [] = [] from rfl] at t4
      have kk4 := gb_none (gb_none k k3) k4
      have hb4 := (hb.keep k3).keep k4
      obtain ⟨j, Hj⟩ : ∃ j : Nat, Hid ((j : Int) = a3 % 5) := ⟨(a3 % 5).toNat, by show _ = _; omega⟩
      obtain ⟨o, Ho⟩ : ∃ o : Nat, Hid (o = 64 * j) := ⟨_, rfl⟩
      have hoa : 64 * (a3 % 5) = (o : Int) := by have := Hj.out; have := Ho.out; omega
      by_cases h0 : o = 0
      all_goals
        first
          | (subst h0; have d1 : decide ((0 : Int) < ((0 : Nat) : Int)) = false := by decide)
          | (have d1 : decide ((0 : Int) < (o : Int)) = true := by simp; omega)
        go_wp2_with fail
        refine (xor_any key non 7 a2 0 cap2 [] _ (by omega) hb4).mono ?_
        rintro e y5 ⟨v15, rfl, k5, t5⟩
        rw [show xorA key non 7 [] = [] from rfl] at t5
        have c13 := told_string (t4.keep k5)
        have c15 := told_string t5
        have kk5 := gb_none kk4 k5
        have cx := held_string (w := y5) (A := none) (n := 0) (c := 0) (bs := []) ⟨rfl, fun h => absurd h (by omega)⟩
        go_wp2_with fail
        refine wp_region_quiet (C := fun W => y5.grownBy W none) (by kernel_rfl) (by kernel_rfl) (gb_drew (gb_refl _ _)) ?_
        simp only []
        repeat go_big_quiet_step ((first | (intros; rfl) | (intro hW; rw [c13 _ hW]; exact ⟨rfl, rfl⟩) | (intro hW; rw [c15 _ hW]; exact ⟨rfl, rfl⟩) | (intro hW; rw [cx _ hW]; exact ⟨rfl, rfl⟩) | (intro hW; refine (awake_any _).mono ?_; rintro e y6 ⟨rfl, k6⟩; exact ⟨rfl, gb_none hW k6⟩)))
        refine wpQuiet_nil ?_
        intro y6 g6
        go_wp2
        go_ret
        exact ⟨rfl, below_of (gb_none kk5 g6)⟩
    · have hx : xorA key non 7 bs = xorS key.data.toList non.data.toList 7 bs := by
        unfold xorA
        rw [hb.1, if_neg hz, if_pos]
        simp only [fitsB, decide_eq_true_eq]
        exact ⟨Hk.out, Hn.out, by omega, by omega⟩
      rw [hx] at t3
      have hlen : (xorS key.data.toList non.data.toList 7 bs).length = len2 := by rw [xorS_len, hb.1]
      obtain ⟨gx, rfl, hrow⟩ : ∃ g, v = .slice (some ⟨g, 0, none⟩) len2 len2 ∧ Row y3 g 5 ((xorS key.data.toList non.data.toList 7 bs).map w8).toArray := by
        rcases t3 with ⟨he, _⟩ | ⟨_, g, hv, _, hr⟩
        · rw [he] at hlen; simp at hlen; omega
        · exact ⟨g, by rw [hv, hlen], hr⟩
      have hcb3 := hcb y3 k3
      have hxh : Holds y3 (some ⟨gx, 0, none⟩) len2 (xorS key.data.toList non.data.toList 7 bs) := by
        have h := row_holds hrow
        rw [hlen] at h; exact h
      have hbl := hb.1
      have Hbl := Lib.hid hbl
      have Hlen := Lib.hid hlen
      clear hbl hlen hx
      go_wp2_with fail
      refine (xor_any key non 7 _ len2 len2 _ _ hl2 hxh).mono ?_
      rintro e y4 ⟨v13, rfl, k4, t4⟩
      have e4 : xorA key non 7 (xorS key.data.toList non.data.toList 7 bs) = bs := by
        have h := xorA_fit7 key non 0 (xorS key.data.toList non.data.toList 7 bs) Hk.out Hn.out (by omega) (by rw [Hlen.out]; omega)
        simp only [Int.natCast_zero, Int.add_zero] at h
        rw [h, xorS_twice]
      rw [e4] at t4
      have kk4 := gb_none (gb_none k k3) k4
      have hb4 := (hb.keep k3).keep k4
      obtain ⟨j, Hj⟩ : ∃ j : Nat, Hid ((j : Int) = a3 % 5) := ⟨(a3 % 5).toNat, by show _ = _; omega⟩
      obtain ⟨o, Ho⟩ : ∃ o : Nat, Hid (o = 64 * j) := ⟨_, rfl⟩
      have hoa : 64 * (a3 % 5) = (o : Int) := by have := Hj.out; have := Ho.out; omega
      have hj4 : j ≤ 4 := by have := Hj.out; omega
      have ho4 : o ≤ 256 := by have := Ho.out; omega
      by_cases hfar : len2 < o
      · have d1 : decide ((len2 : Int) < (o : Int)) = true := by simp; omega
        go_wp2_with fail
        refine (xor_any key non 7 _ len2 _ bs _ hl2 hb4).mono ?_
        rintro e y5 ⟨v15, rfl, k5, t5⟩
        have e5 : xorA key non 7 bs = xorS key.data.toList non.data.toList 7 bs := by
          have h := xorA_fit7 key non 0 bs Hk.out Hn.out (by omega) (by rw [Hbl.out]; omega)
          simp only [Int.natCast_zero, Int.add_zero] at h
          exact h
        rw [e5] at t5
        have c13 := told_string (t4.keep k5)
        have c15 := told_string t5
        have hx5 := (hxh.keep k4).keep k5
        have kk5 := gb_none kk4 k5
        have cx := held_string (c := len2) hx5
        go_wp2_with fail
        refine wp_region_quiet (C := fun W => y5.grownBy W none) (by kernel_rfl) (by kernel_rfl) (gb_drew (gb_refl _ _)) ?_
        simp only []
        repeat go_big_quiet_step ((first | (intros; rfl) | (intro hW; rw [c13 _ hW]; exact ⟨rfl, rfl⟩) | (intro hW; rw [c15 _ hW]; exact ⟨rfl, rfl⟩) | (intro hW; rw [cx _ hW]; exact ⟨rfl, rfl⟩) | (intro hW; refine (awake_any _).mono ?_; rintro e y6 ⟨rfl, k6⟩; exact ⟨rfl, gb_none hW k6⟩)))
        refine wpQuiet_nil ?_
        intro y6 g6
        go_wp2
        go_ret
        exact ⟨rfl, below_of (gb_none kk5 g6)⟩
      · have d1 : decide ((len2 : Int) < (o : Int)) = false := by simp; omega
        have hoj : (o : Int) / 64 = (j : Int) := by have := Ho.out; omega
        have ho1 : (o : Int) ≤ (len2 : Int) := by omega
        have hcc : (len2 : Int) ≤ (cap2 : Int) := by omega
        go_wp2_with fail
        all_goals
          refine (xor_any key non (7 + (j : Int)) _ (len2 - o) _ (bs.drop o) _ (by omega) ?hh).mono ?_
          case hh => first | exact cut_held hb4 (by omega) | exact cut_none hb4 (by omega)
          rintro e y5 ⟨v15, rfl, k5, t5⟩
          have e5 : xorA key non (7 + (j : Int)) (bs.drop o) = (xorS key.data.toList non.data.toList 7 bs).drop o := by
            rw [xorA_fit7 key non j _ Hk.out Hn.out hj4 (by rw [List.length_drop, Hbl.out]; omega), Ho.out]
            exact xorS_drop _ _ _ _ _
          rw [e5] at t5
          have c13 := told_string (t4.keep k5)
          have c15 := told_string t5
          have hx5 := (hxh.keep k4).keep k5
          have kk5 := gb_none kk4 k5
          by_cases hlo : len2 = o
          · have ed : (xorS key.data.toList non.data.toList 7 bs).drop o = [] := List.drop_eq_nil_of_le (by rw [Hlen.out]; omega)
            rw [ed] at c15
            have cx := held_string (w := y5) (A := some ⟨gx, 0, none⟩) (n := 0) (c := 0) (bs := []) ⟨rfl, fun h => absurd h (by omega)⟩
            have hlo0 : len2 - o = 0 := by omega
            go_wp2_with fail
            refine wp_region_quiet (C := fun W => y5.grownBy W none) (by kernel_rfl) (by kernel_rfl) (gb_drew (gb_refl _ _)) ?_
            simp only []
            repeat go_big_quiet_step ((first | (intros; rfl) | (intro hW; rw [c13 _ hW]; exact ⟨rfl, rfl⟩) | (intro hW; rw [c15 _ hW]; exact ⟨rfl, rfl⟩) | (intro hW; rw [cx _ hW]; exact ⟨rfl, rfl⟩) | (intro hW; refine (awake_any _).mono ?_; rintro e y6 ⟨rfl, k6⟩; exact ⟨rfl, gb_none hW k6⟩)))
            refine wpQuiet_nil ?_
            intro y6 g6
            go_wp2
            go_ret
            exact ⟨rfl, below_of (gb_none kk5 g6)⟩
          · have cx : ∀ W, y5.grownBy W none → (convert 25 9 (.slice (some ⟨gx, o, none⟩) (len2 - o) (len2 - o))).run Try.prog W = .ok (.string ⟨((xorS key.data.toList non.data.toList 7 bs).drop o).toArray⟩) W := by
              have h := held_string (c := len2 - o) (drop_holds (k := o) hx5 (by omega))
              rw [Nat.zero_add] at h
              exact h
            go_wp2_with fail
            refine wp_region_quiet (C := fun W => y5.grownBy W none) (by kernel_rfl) (by kernel_rfl) (gb_drew (gb_refl _ _)) ?_
            simp only []
            repeat go_big_quiet_step ((first | (intros; rfl) | (intro hW; rw [c13 _ hW]; exact ⟨rfl, rfl⟩) | (intro hW; rw [c15 _ hW]; exact ⟨rfl, rfl⟩) | (intro hW; rw [cx _ hW]; exact ⟨rfl, rfl⟩) | (intro hW; refine (awake_any _).mono ?_; rintro e y6 ⟨rfl, k6⟩; exact ⟨rfl, gb_none hW k6⟩)))
            refine wpQuiet_nil ?_
            intro y6 g6
            go_wp2
            go_ret
            exact ⟨rfl, below_of (gb_none kk5 g6)⟩

set_option maxRecDepth 100000 in
theorem lifted (os : Os) (started : os.Started) (H : Type) (enc : TypeId × Value → H) :
    ReturnsInHanded {} Try.checked os 6 .any (Rows.chachaTwiceSpec.pre6 enc Try.prog Try.f6 Rows.chachaTwiceRow.domain false) (Rows.chachaTwiceSpec.post enc Try.prog Try.f6 false true false false) := by
  refine returnsInHanded_of_change (C := Try.checked) own started (by kernel_rfl) Try.func6
    (ChangeSpec.witness6 (enc := enc) (C := Try.checked) false ⟨#[], #[.slice none 0 0, .slice none 0 0, .slice none 0 0, .int .u8 0], []⟩ 8 (by kernel_rfl) (by kernel_rfl) (by kernel_rfl) (by kernel_rfl)) ?_
  intro W base args ds gs before hval0 hW hcnd _
  have hval : ∀ (j : Nat) t v, Try.f6.params[j]? = some t → args[j]? = some v → Value.okWide Try.prog W .any base t v := hval0
  have hW' := hW
  obtain ⟨p, q, hA0, hV, rfl, hfz, hnd⟩ := hW
  have hA : DataW.TrodAll enc Try.prog W 0 (fun _ => true) true Try.f6.params.toList args.toList ds p := hA0
  rw [Try.params6] at hA hval
  obtain ⟨v0, vs0, d0, ds0, p0, q0, hargs, rfl, rfl, h0, r0⟩ := trodAll_cons hA
  obtain ⟨v1, vs1, d1, ds1, p1, q1, rfl, rfl, rfl, h1, r1⟩ := trodAll_cons r0
  obtain ⟨v2, vs2, d2, ds2, p2, q2, rfl, rfl, rfl, h2, r2⟩ := trodAll_cons r1
  obtain ⟨v3, vs3, d3, ds3, p3, q3, rfl, rfl, rfl, h3, r3⟩ := trodAll_cons r2
  obtain ⟨rfl, rfl, rfl⟩ := trodAll_nil r3
  obtain rfl : args = #[v0, v1, v2, v3] := by cases args; simp_all
  obtain ⟨rfl, rfl⟩ := trodVars_none hV
  obtain ⟨a0, len0, cap0, rfl⟩ := okWide_slice Try.underlying25 (hval 0 25 v0 rfl rfl)
  have k0 := h0
  have lt0 : ∀ x ∈ p0, x.block < W.heap.size := by obtain ⟨m, hm⟩ := k0; exact DataW.trod_lt m _ _ _ hm
  obtain ⟨z0, w0⟩ : ∃ zs, IsRow .u8 W a0 len0 cap0 zs := by
    obtain ⟨fuel, hf⟩ := h0
    rcases open_ints Try.underlying25 Try.underlying5 (by kernel_rfl) hf with ⟨hcs, _⟩ | ⟨x, l, c, zs, hcs, _, hl, hm, hz, _, hcell, hwz⟩
    · simp [Value.cells] at hcs
      obtain ⟨rfl, rfl, rfl⟩ := hcs
      exact ⟨[], .inl ⟨rfl, rfl, rfl, rfl⟩⟩
    · simp [Value.cells] at hcs
      obtain ⟨rfl, rfl, rfl⟩ := hcs
      exact ⟨zs, .inr ⟨_, rfl, hl, hm, by simpa using hz, hcell, hwz⟩⟩
  obtain ⟨a1, len1, cap1, rfl⟩ := okWide_slice Try.underlying25 (hval 1 25 v1 rfl rfl)
  have k1 := h1
  have lt1 : ∀ x ∈ p1, x.block < W.heap.size := by obtain ⟨m, hm⟩ := k1; exact DataW.trod_lt m _ _ _ hm
  obtain ⟨z1, w1⟩ : ∃ zs, IsRow .u8 W a1 len1 cap1 zs := by
    obtain ⟨fuel, hf⟩ := h1
    rcases open_ints Try.underlying25 Try.underlying5 (by kernel_rfl) hf with ⟨hcs, _⟩ | ⟨x, l, c, zs, hcs, _, hl, hm, hz, _, hcell, hwz⟩
    · simp [Value.cells] at hcs
      obtain ⟨rfl, rfl, rfl⟩ := hcs
      exact ⟨[], .inl ⟨rfl, rfl, rfl, rfl⟩⟩
    · simp [Value.cells] at hcs
      obtain ⟨rfl, rfl, rfl⟩ := hcs
      exact ⟨zs, .inr ⟨_, rfl, hl, hm, by simpa using hz, hcell, hwz⟩⟩
  obtain ⟨a2, len2, cap2, rfl⟩ := okWide_slice Try.underlying25 (hval 2 25 v2 rfl rfl)
  have k2 := h2
  have lt2 : ∀ x ∈ p2, x.block < W.heap.size := by obtain ⟨m, hm⟩ := k2; exact DataW.trod_lt m _ _ _ hm
  obtain ⟨z2, w2⟩ : ∃ zs, IsRow .u8 W a2 len2 cap2 zs := by
    obtain ⟨fuel, hf⟩ := h2
    rcases open_ints Try.underlying25 Try.underlying5 (by kernel_rfl) hf with ⟨hcs, _⟩ | ⟨x, l, c, zs, hcs, _, hl, hm, hz, _, hcell, hwz⟩
    · simp [Value.cells] at hcs
      obtain ⟨rfl, rfl, rfl⟩ := hcs
      exact ⟨[], .inl ⟨rfl, rfl, rfl, rfl⟩⟩
    · simp [Value.cells] at hcs
      obtain ⟨rfl, rfl, rfl⟩ := hcs
      exact ⟨zs, .inr ⟨_, rfl, hl, hm, by simpa using hz, hcell, hwz⟩⟩
  obtain ⟨a3, rfl, rfl, rfl, w3⟩ := open_int Try.underlying5 (hval 3 5 v3 rfl rfl) h3
  clear hA0 hval0
  refine (walk a0 len0 cap0 z0 a1 len1 cap1 z1 a2 len2 cap2 z2 a3 W w0 w1 w2 w3).mono fun e W' ⟨he, bel⟩ => ?_
  subst he
  exact ⟨_, rfl, _, _, _, [], _, [], hW', trodAll_mk1 (shut_bool Try.underlying4 _), (trodAll_cons_mk (Below.trod laidOut (by kernel_rfl) (of_decide_eq_true (by kernel_rfl)) k0 bel lt0) (trodAll_cons_mk (Below.trod laidOut (by kernel_rfl) (of_decide_eq_true (by kernel_rfl)) k1 bel lt1) (trodAll_cons_mk (Below.trod laidOut (by kernel_rfl) (of_decide_eq_true (by kernel_rfl)) k2 bel lt2) (trodAll_cons_mk (shut_int Try.underlying5 w3) trodAll_mk0)))), rfl, bel.frame _, fun h => by cases h⟩

theorem over : Rows.chachaTwiceRow.holds Try.pinned (OpenSpec.ofChange Rows.chachaTwiceSpec) :=
  OpenClaim.holds_of_wide 6 Try.f6 rfl rfl rfl rfl rfl rfl rfl ⟨rfl, rfl, rfl, rfl, rfl⟩ rfl rfl rfl rfl rfl (by kernel_rfl) Try.func6 (by kernel_rfl)
    (of_decide_eq_true (by kernel_rfl)) (by unfold Func.isWrapper; first | (rw [if_pos (by decide +kernel)]; kernel_rfl) | (rw [if_neg (by decide +kernel)]; exact ⟨rfl, rfl⟩))
    (fun os started H enc _ => lifted os started H enc)

theorem proved : Rows.ChachaTwiceSaid := over
#print axioms proved
end Go.Proofs.Ythajddnebambfaa.chachaTwice
