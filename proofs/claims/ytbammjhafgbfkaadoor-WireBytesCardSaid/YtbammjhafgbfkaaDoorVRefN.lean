/- The document's number, read, GetWire. -/
import Derived.Test.YtbammjhafgbfkaaDoorVMake
import Derived.Laws.Bits64b
namespace Go.Proofs.YtbammjhafgbfkaaDoor
open Go.RowKit Wd Mm Vw

theorem beN_lt8 (l : List UInt8) (h : l.length ≤ 8) : beN l < 18446744073709551616 := by
  have H : ∀ (n : Nat) (l : List UInt8), l.length = n → beN l < 256 ^ n := by
    intro n
    induction n with
    | zero => intro l hl; rw [List.length_eq_zero_iff.1 hl]; decide
    | succ n ih =>
      intro l hl
      obtain ⟨l', c, rfl⟩ : ∃ l' c, l = l' ++ [c] := by
        rcases List.eq_nil_or_concat l with rfl | ⟨l', c, rfl⟩
        · cases hl
        · exact ⟨l', c, by simp⟩
      rw [beN_snoc]
      have h1 := ih l' (by simpa using hl)
      have h2 := c.toNat_lt
      rw [Nat.pow_succ]
      omega
  have h1 := H _ l rfl
  have h2 : 256 ^ l.length ≤ 256 ^ 8 := Nat.pow_le_pow_right (by decide) h
  have h3 : (256 : Nat) ^ 8 = 18446744073709551616 := by decide
  omega
set_option maxHeartbeats 2000000 in
set_option maxRecDepth 100000 in
theorem number_ref (s : ByteArray) (at_ n : Nat) (w : World) (hn : n ≤ 8) (hl : at_ + n ≤ s.size) (hs : s.size ≤ 1099511627776) :
    Calls Tryd.prog 48 #[.string s, .int .i64 (at_ : Int), .int .i64 (n : Int)] w fun e w' => e = .returned (.int .i64 (valI ((s.data.toList.drop at_).take n))) ∧ w = w' := by
  obtain ⟨t, ht⟩ : ∃ t, t = (s.data.toList.drop at_).take n := ⟨_, rfl⟩
  have htl : t.length = n := by rw [ht, List.length_take, List.length_drop]; simp; omega
  rw [← ht]
  have Ht := Lib.hid ht
  have Htl := Lib.hid htl
  clear ht htl
  go_enter Tryd.func48, Tryd.ntmps48
  go_wp2_with fail
  go_loop [7, 8] (fun u i => ∃ j : Nat, j ≤ n ∧ i = .int .i64 j ∧ u = .int .u64 (beN (t.take j) : Nat)) (fun _ i => n - (intOf i).toNat)
  case atStart => exact ⟨0, Nat.zero_le _, rfl, rfl⟩
  case round =>
    obtain ⟨j, hj, rfl, rfl⟩ := hrel
    by_cases hlt : j < n
    · have dz : decide (j < n) = true := decide_eq_true hlt
      have hb : beN (t.take j) < 18446744073709551616 := beN_lt8 _ (by rw [List.length_take]; omega)
      obtain ⟨u, Hu⟩ : ∃ u, Hid (u = beN (t.take j)) := ⟨_, rfl⟩
      rw [← Hu.out] at hb ⊢
      have hat : at_ + j < s.size := by omega
      go_wp2_with fail
      have Hst : Hid (bits .or .u64 (IntKind.u64.wrap ((u : Int) * 256)) (IntKind.u64.wrap (s[at_ + j].toNat : Int)) = ((beN (t.take (j + 1)) : Nat) : Int)) := by
        show _ = _
        have hc := s[at_ + j].toNat_lt
        have hget : t[j]'(by rw [Htl.out]; exact hlt) = s[at_ + j] := by
          have h1 : t[j]? = some s[at_ + j] := by
            rw [Ht.out, List.getElem?_take, if_pos hlt, List.getElem?_drop, Array.getElem?_toList, Array.getElem?_eq_getElem hat]; rfl
          rw [List.getElem?_eq_getElem (by rw [Htl.out]; exact hlt)] at h1
          exact Option.some.inj h1
        have e1 : beN (t.take (j + 1)) = u * 256 + s[at_ + j].toNat := by
          rw [List.take_succ_eq_append_getElem (by rw [Htl.out]; exact hlt), beN_snoc, hget, Hu.out]
        have hlt8 : beN (t.take (j + 1)) < 18446744073709551616 := beN_lt8 _ (by rw [List.length_take]; omega)
        rw [e1] at hlt8 ⊢
        have w1 : IntKind.u64.wrap ((u : Int) * 256) = ((u * 256 : Nat) : Int) := by rw [IntKind.wrap_u64]; omega
        have w2 : IntKind.u64.wrap (s[at_ + j].toNat : Int) = (s[at_ + j].toNat : Int) := by rw [IntKind.wrap_u64]; omega
        rw [w1, w2, bits_or_u64_nat _ _ (by omega) (by omega)]
        have h3 : u * 256 ||| s[at_ + j].toNat = u * 256 + s[at_ + j].toNat := by
          have := (Nat.two_pow_add_eq_or_of_lt (i := 8) (b := s[at_ + j].toNat) (by omega) u).symm
          rw [show 2 ^ 8 * u = u * 256 by omega] at this
          exact this
        rw [h3]
      go_round
      case rel => exact ⟨j + 1, by omega, by go_num, by rw [Hst.out]⟩
      case measure => simp [intOf]; omega
    · have dz : decide (j < n) = false := decide_eq_false hlt
      have Hd : Hid (t.take j = t) := List.take_of_length_le (by rw [Htl.out]; omega)
      rw [Hd.out]
      clear hlt
      go_wp2_with fail
      go_ret
      exact ⟨rfl, rfl⟩

/-- What Read holds. -/
def readV (x : Wr) (A : Option Addr) (c : Nat) (next : Int) : Value := .agg #[.int .i64 x.k, .int .i64 x.n, .string x.s, .slice A x.l.length c, .int .i64 next]
def ReadBad (w : World) (e : Ending) (w' : World) : Prop := e = .returned (.agg #[.int .i64 0, .int .i64 0, .string ⟨#[]⟩, .slice none 0 0, .int .i64 (-1)]) ∧ w.grownBy w' none
def ReadGot (x : Wr) (next : Nat) (w : World) (e : Ending) (w' : World) : Prop := ∃ A c, e = .returned (.agg #[.int .i64 x.k, .int .i64 x.n, .string x.s, .slice A x.l.length c, .int .i64 (next : Int)]) ∧ HL w' w.heap.size (.slice A x.l.length c) x.l ∧ w.grownBy w' none
set_option maxHeartbeats 4000000 in
set_option maxRecDepth 100000 in
theorem read_short (s : ByteArray) (at_ : Nat) (R : Int) (w : World) (hs : s.size ≤ 1099511627776) (hl : s.size < at_ + 5) (ha : at_ ≤ s.size) :
    Calls Tryd.prog 36 #[.string s, .int .i64 (at_ : Int), .int .i64 R] w (ReadBad w) := by
  have d1 : decide ((s.size : Int) < (at_ : Int) + 5) = true := decide_eq_true (by omega)
  go_enter Tryd.func36, Tryd.ntmps36
  go_wp2_with fail
  refine bodyPost_ret (v := .agg #[.int .i64 0, .int .i64 0, .string ⟨#[]⟩, .slice none 0 0, .int .i64 (-1)]) (by simp [results, Tryd.results36, go_sem]) rfl ?_
  exact ⟨rfl, gb_alloc (gb_refl _ _) _⟩
set_option maxHeartbeats 4000000 in
set_option maxRecDepth 100000 in
theorem read_nonum (s : ByteArray) (at_ : Nat) (R : Int) (w : World) (hs : s.size ≤ 1099511627776) (hl : at_ + 5 ≤ s.size) (hk : (s[at_]'(by omega)).toNat = 1) (h9 : s.size < at_ + 9) :
    Calls Tryd.prog 36 #[.string s, .int .i64 (at_ : Int), .int .i64 R] w (ReadBad w) := by
  have d1 : decide ((s.size : Int) < (at_ : Int) + 5) = false := decide_eq_false (by omega)
  have hat : at_ < s.size := by omega
  have hk1 : ((s[at_]'hat).toNat : Int) = 1 := by omega
  have d2 : decide ((s.size : Int) < (at_ : Int) + 9) = true := decide_eq_true (by omega)
  clear hk
  go_enter Tryd.func36, Tryd.ntmps36
  go_wp2_with fail
  refine bodyPost_ret (v := .agg #[.int .i64 0, .int .i64 0, .string ⟨#[]⟩, .slice none 0 0, .int .i64 (-1)]) (by simp [results, Tryd.results36, go_sem]) rfl ?_
  exact ⟨rfl, gb_alloc (gb_alloc (gb_refl _ _) _) _⟩
set_option maxHeartbeats 4000000 in
set_option maxRecDepth 100000 in
theorem read_num (s : ByteArray) (at_ : Nat) (R : Int) (w : World) (hs : s.size ≤ 1099511627776) (hl : at_ + 5 ≤ s.size) (hk : (s[at_]'(by omega)).toNat = 1) (h9 : at_ + 9 ≤ s.size) :
    Calls Tryd.prog 36 #[.string s, .int .i64 (at_ : Int), .int .i64 R] w (ReadGot (num (valI ((s.data.toList.drop (at_ + 1)).take 8))) (at_ + 9) w) := by
  have d1 : decide ((s.size : Int) < (at_ : Int) + 5) = false := decide_eq_false (by omega)
  have hat : at_ < s.size := by omega
  have hk1 : ((s[at_]'hat).toNat : Int) = 1 := by omega
  have d2 : decide ((s.size : Int) < (at_ : Int) + 9) = false := decide_eq_false (by omega)
  obtain ⟨V, HV⟩ : ∃ V, Hid (valI ((s.data.toList.drop (at_ + 1)).take 8) = V) := ⟨_, rfl⟩
  rw [HV.out]
  have hn := fun W => number_ref s (at_ + 1) 8 W (by decide) (by omega) hs
  rw [HV.out] at hn
  have Hn := Lib.hid hn
  clear hk hn
  go_enter Tryd.func36, Tryd.ntmps36
  go_wp2_with fail
  refine (Hn.out _).mono ?_
  rintro e w2 ⟨rfl, rfl⟩
  go_wp2_with fail
  refine bodyPost_ret (v := .agg #[.int .i64 1, .int .i64 V, .string ⟨#[]⟩, .slice none 0 0, .int .i64 ((at_ : Int) + 9)]) (by simp [results, Tryd.results36, go_sem]) rfl ?_
  exact ⟨none, 0, by rw [show ((at_ + 9 : Nat) : Int) = (at_ : Int) + 9 by omega]; rfl, .nil _ _, gb_alloc (gb_alloc (gb_refl _ _) _) _⟩
set_option maxHeartbeats 4000000 in
set_option maxRecDepth 100000 in
theorem read_text (s : ByteArray) (at_ : Nat) (R : Int) (w : World) (hs : s.size ≤ 1099511627776) (hl : at_ + 5 ≤ s.size) (hk : (s[at_]'(by omega)).toNat = 2) (hN : beN ((s.data.toList.drop (at_ + 1)).take 4) ≤ 1048576) (hN2 : beN ((s.data.toList.drop (at_ + 1)).take 4) + at_ + 5 ≤ s.size) :
    Calls Tryd.prog 36 #[.string s, .int .i64 (at_ : Int), .int .i64 R] w (ReadGot (txt (s.extract (at_ + 5) (at_ + 5 + beN ((s.data.toList.drop (at_ + 1)).take 4)))) (at_ + 5 + beN ((s.data.toList.drop (at_ + 1)).take 4)) w) := by
  have d1 : decide ((s.size : Int) < (at_ : Int) + 5) = false := decide_eq_false (by omega)
  have hat : at_ < s.size := by omega
  have hk1 : ((s[at_]'hat).toNat : Int) = 2 := by omega
  obtain ⟨N, HN⟩ : ∃ N, Hid (beN ((s.data.toList.drop (at_ + 1)).take 4) = N) := ⟨_, rfl⟩
  have hn := fun W => number_ref s (at_ + 1) 4 W (by decide) (by omega) hs
  rw [four_nat, HN.out] at hn
  have Hn := Lib.hid hn
  rw [HN.out] at hN
  rw [HN.out] at hN2 ⊢
  have d2 : decide ((N : Int) ≤ 1048576) = true := decide_eq_true (by omega)
  have d3 : decide ((N : Int) ≤ (s.size : Int) - (at_ : Int) - 5) = true := decide_eq_true (by omega)
  have h5 : at_ + 5 ≤ at_ + 5 + N := by omega
  have h6 : at_ + 5 + N ≤ s.size := by omega
  have h7 : (at_ : Int) + 5 ≤ (at_ : Int) + 5 + (N : Int) := by omega
  have h8 : (at_ : Int) + 5 + (N : Int) ≤ (s.size : Int) := by omega
  have h9 : N ≤ 1048576 := by omega
  have hsl : ∀ W : World, (Instr.slice 9 (.string s) (some (.int .i64 ((at_ : Int) + 5))) (some (.int .i64 ((at_ : Int) + 5 + (N : Int)))) none).run Tryd.prog W = .ok (.string (s.extract (at_ + 5) (at_ + 5 + N))) W := fun W => by
    have h := run_slice_string (P := Tryd.prog) (w := W) 9 s .i64 .i64 ((at_ : Int) + 5) ((at_ : Int) + 5 + (N : Int)) Tryd.underlying9 (by omega) (by omega) (by omega)
    rw [show ((at_ : Int) + 5).toNat = at_ + 5 by omega, show ((at_ : Int) + 5 + (N : Int)).toNat = at_ + 5 + N by omega] at h
    exact h
  clear hk hn
  go_enter Tryd.func36, Tryd.ntmps36
  go_wp2_with fail
  refine (Hn.out _).mono ?_
  rintro e w2 ⟨rfl, rfl⟩
  go_wp2_with fail
  obtain ⟨u, hu⟩ : ∃ u, u = s.extract (at_ + 5) (at_ + 5 + N) := ⟨_, rfl⟩
  rw [← hu]
  refine bodyPost_ret (v := .agg #[.int .i64 2, .int .i64 0, .string u, .slice none 0 0, .int .i64 ((at_ : Int) + 5 + N)]) (by simp [results, Tryd.results36, go_sem]) rfl ?_
  exact ⟨none, 0, by rw [show ((at_ + 5 + N : Nat) : Int) = (at_ : Int) + 5 + N by omega]; rfl, .nil _ _, gb_alloc (gb_alloc (gb_refl _ _) _) _⟩
set_option maxHeartbeats 4000000 in
set_option maxRecDepth 100000 in
theorem read_notext (s : ByteArray) (at_ : Nat) (R : Int) (w : World) (hs : s.size ≤ 1099511627776) (hl : at_ + 5 ≤ s.size) (hk : (s[at_]'(by omega)).toNat = 2) (hN : 1048576 < beN ((s.data.toList.drop (at_ + 1)).take 4) ∨ s.size < beN ((s.data.toList.drop (at_ + 1)).take 4) + at_ + 5) :
    Calls Tryd.prog 36 #[.string s, .int .i64 (at_ : Int), .int .i64 R] w (ReadBad w) := by
  have d1 : decide ((s.size : Int) < (at_ : Int) + 5) = false := decide_eq_false (by omega)
  have hat : at_ < s.size := by omega
  have hk1 : ((s[at_]'hat).toNat : Int) = 2 := by omega
  obtain ⟨N, HN⟩ : ∃ N, Hid (beN ((s.data.toList.drop (at_ + 1)).take 4) = N) := ⟨_, rfl⟩
  have hn := fun W => number_ref s (at_ + 1) 4 W (by decide) (by omega) hs
  rw [four_nat, HN.out] at hn
  have Hn := Lib.hid hn
  rw [HN.out] at hN
  have key : decide ((N : Int) ≤ 1048576) = false ∨ (decide ((N : Int) ≤ 1048576) = true ∧ decide ((N : Int) ≤ (s.size : Int) - (at_ : Int) - 5) = false) := by
    by_cases h : (N : Int) ≤ 1048576
    · exact .inr ⟨decide_eq_true h, decide_eq_false (by omega)⟩
    · exact .inl (decide_eq_false h)
  clear hk hn hN
  rcases key with k1 | ⟨k1, k2⟩
  all_goals
    go_enter Tryd.func36, Tryd.ntmps36
    go_wp2_with fail
    refine (Hn.out _).mono ?_
    rintro e w2 ⟨rfl, rfl⟩
    go_wp2_with fail
    refine bodyPost_ret (v := .agg #[.int .i64 0, .int .i64 0, .string ⟨#[]⟩, .slice none 0 0, .int .i64 (-1)]) (by simp [results, Tryd.results36, go_sem]) rfl ?_
    exact ⟨rfl, gb_alloc (gb_alloc (gb_refl _ _) _) _⟩
set_option maxHeartbeats 4000000 in
set_option maxRecDepth 100000 in
theorem read_nokind (s : ByteArray) (at_ : Nat) (R : Int) (w : World) (hs : s.size ≤ 1099511627776) (hl : at_ + 5 ≤ s.size) (h1 : (s[at_]'(by omega)).toNat ≠ 1) (h2 : (s[at_]'(by omega)).toNat ≠ 2) (h3 : (s[at_]'(by omega)).toNat ≠ 3) :
    Calls Tryd.prog 36 #[.string s, .int .i64 (at_ : Int), .int .i64 R] w (ReadBad w) := by
  have d1 : decide ((s.size : Int) < (at_ : Int) + 5) = false := decide_eq_false (by omega)
  have hat : at_ < s.size := by omega
  obtain ⟨K, HK⟩ : ∃ K : Int, Hid (((s[at_]'hat).toNat : Int) = K) := ⟨_, rfl⟩
  have k0 : ((s[at_]'hat).toNat : Int) = K := HK.out
  have kk : 0 ≤ K ∧ K ≤ 255 := by have := (s[at_]'hat).toNat_lt; omega
  have e1 : (K == 1) = false := by simp; omega
  have e2 : (K == 2) = false := by simp; omega
  have e3 : (K == 3) = false := by simp; omega
  have e4 : (K != 3) = true := by simp only [bne, e3]; rfl
  have hN : True := trivial
  obtain ⟨N, HN⟩ : ∃ N, Hid (beN ((s.data.toList.drop (at_ + 1)).take 4) = N) := ⟨_, rfl⟩
  have hn := fun W => number_ref s (at_ + 1) 4 W (by decide) (by omega) hs
  rw [four_nat, HN.out] at hn
  have Hn := Lib.hid hn
  clear h1 h2 h3 hn hN
  go_enter Tryd.func36, Tryd.ntmps36
  go_wp2_with fail
  refine (Hn.out _).mono ?_
  rintro e w2 ⟨rfl, rfl⟩
  go_wp2_with fail
  refine bodyPost_ret (v := .agg #[.int .i64 0, .int .i64 0, .string ⟨#[]⟩, .slice none 0 0, .int .i64 (-1)]) (by simp [results, Tryd.results36, go_sem]) rfl ?_
  exact ⟨rfl, gb_alloc (gb_alloc (gb_refl _ _) _) _⟩
set_option maxHeartbeats 4000000 in
set_option maxRecDepth 100000 in
theorem read_nolist (s : ByteArray) (at_ : Nat) (R : Int) (w : World) (hs : s.size ≤ 1099511627776) (hl : at_ + 5 ≤ s.size) (hk : (s[at_]'(by omega)).toNat = 3) (hN : 65536 < beN ((s.data.toList.drop (at_ + 1)).take 4) ∨ R < 1) :
    Calls Tryd.prog 36 #[.string s, .int .i64 (at_ : Int), .int .i64 R] w (ReadBad w) := by
  have d1 : decide ((s.size : Int) < (at_ : Int) + 5) = false := decide_eq_false (by omega)
  have hat : at_ < s.size := by omega
  have hk1 : ((s[at_]'hat).toNat : Int) = 3 := by omega
  obtain ⟨N, HN⟩ : ∃ N, Hid (beN ((s.data.toList.drop (at_ + 1)).take 4) = N) := ⟨_, rfl⟩
  have hn := fun W => number_ref s (at_ + 1) 4 W (by decide) (by omega) hs
  rw [four_nat, HN.out] at hn
  have Hn := Lib.hid hn
  rw [HN.out] at hN
  have key : decide (65536 < (N : Int)) = true ∨ (decide (65536 < (N : Int)) = false ∧ decide (R < 1) = true) := by
    by_cases h : 65536 < (N : Int)
    · exact .inl (decide_eq_true h)
    · exact .inr ⟨decide_eq_false h, decide_eq_true (by omega)⟩
  clear hk hn hN
  rcases key with k1 | ⟨k1, k2⟩
  all_goals
    go_enter Tryd.func36, Tryd.ntmps36
    go_wp2_with fail
    refine (Hn.out _).mono ?_
    rintro e w2 ⟨rfl, rfl⟩
    go_wp2_with fail
    refine bodyPost_ret (v := .agg #[.int .i64 0, .int .i64 0, .string ⟨#[]⟩, .slice none 0 0, .int .i64 (-1)]) (by simp [results, Tryd.results36, go_sem]) rfl ?_
    exact ⟨rfl, gb_alloc (gb_alloc (gb_refl _ _) _) _⟩
end Go.Proofs.YtbammjhafgbfkaaDoor
