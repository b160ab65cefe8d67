/- The document's number, read, GetWire. The document's read of a list; read, GetWire. The document's read at whatever bytes; GetWire. -/
import Derived.Test.YthijiefopcnclaaGreatDoorVD
import Derived.Laws.Bits64b
namespace Go.Proofs.YthijiefopcnclaaGreatDoor
open Go.RowKit Wd Mm Vw

theorem beN_lt8 (l : List UInt8) (h : l.length ≤ 8) : beN l < 18446744073709551616 := by
  have H : ∀ (n : Nat) (l : List UInt8), l.length = n → beN l < 256 ^ n := by
    intro n
    induction n with
    | zero => intro l hl; rw [List.length_eq_zero_iff.1 hl]; decide
    | succ n ih =>
      intro l hl
      obtain ⟨l', c, rfl⟩ : ∃ l' c, l = l' ++ [c] := by
        rcases List.eq_nil_or_concat l with rfl | ⟨l', c, rfl⟩
        · cases hl
        · exact ⟨l', c, by simp⟩
      rw [beN_snoc]
      have h1 := ih l' (by simpa using hl)
      have h2 := c.toNat_lt
      rw [Nat.pow_succ]
      omega
  have h1 := H _ l rfl
  have h2 : 256 ^ l.length ≤ 256 ^ 8 := Nat.pow_le_pow_right (by decide) h
  have h3 : (256 : Nat) ^ 8 = 18446744073709551616 := by decide
  omega
set_option maxHeartbeats 2000000 in
set_option maxRecDepth 100000 in
theorem number_ref (s : ByteArray) (at_ n : Nat) (w : World) (hn : n ≤ 8) (hl : at_ + n ≤ s.size) (hs : s.size ≤ 1099511627776) :
    Calls Tryz.prog 72 #[.string s, .int .i64 (at_ : Int), .int .i64 (n : Int)] w fun e w' => e = .returned (.int .i64 (valI ((s.data.toList.drop at_).take n))) ∧ w = w' := by
  obtain ⟨t, ht⟩ : ∃ t, t = (s.data.toList.drop at_).take n := ⟨_, rfl⟩
  have htl : t.length = n := by rw [ht, List.length_take, List.length_drop]; simp; omega
  rw [← ht]
  have Ht := Lib.hid ht
  have Htl := Lib.hid htl
  clear ht htl
  go_enter Tryz.func72, Tryz.ntmps72
  go_wp2_with fail
  go_loop [7, 8] (fun u i => ∃ j : Nat, j ≤ n ∧ i = .int .i64 j ∧ u = .int .u64 (beN (t.take j) : Nat)) (fun _ i => n - (intOf i).toNat)
  case atStart => exact ⟨0, Nat.zero_le _, rfl, rfl⟩
  case round =>
    obtain ⟨j, hj, rfl, rfl⟩ := hrel
    by_cases hlt : j < n
    · have dz : decide (j < n) = true := decide_eq_true hlt
      have hb : beN (t.take j) < 18446744073709551616 := beN_lt8 _ (by rw [List.length_take]; omega)
      obtain ⟨u, Hu⟩ : ∃ u, Hid (u = beN (t.take j)) := ⟨_, rfl⟩
      rw [← Hu.out] at hb ⊢
      have hat : at_ + j < s.size := by omega
      go_wp2_with fail
      have Hst : Hid (bits .or .u64 (IntKind.u64.wrap ((u : Int) * 256)) (IntKind.u64.wrap (s[at_ + j].toNat : Int)) = ((beN (t.take (j + 1)) : Nat) : Int)) := by
        show _ = _
        have hc := s[at_ + j].toNat_lt
        have hget : t[j]'(by rw [Htl.out]; exact hlt) = s[at_ + j] := by
          have h1 : t[j]? = some s[at_ + j] := by
            rw [Ht.out, List.getElem?_take, if_pos hlt, List.getElem?_drop, Array.getElem?_toList, Array.getElem?_eq_getElem hat]; rfl
          rw [List.getElem?_eq_getElem (by rw [Htl.out]; exact hlt)] at h1
          exact Option.some.inj h1
        have e1 : beN (t.take (j + 1)) = u * 256 + s[at_ + j].toNat := by
          rw [List.take_succ_eq_append_getElem (by rw [Htl.out]; exact hlt), beN_snoc, hget, Hu.out]
        have hlt8 : beN (t.take (j + 1)) < 18446744073709551616 := beN_lt8 _ (by rw [List.length_take]; omega)
        rw [e1] at hlt8 ⊢
        have w1 : IntKind.u64.wrap ((u : Int) * 256) = ((u * 256 : Nat) : Int) := by rw [IntKind.wrap_u64]; omega
        have w2 : IntKind.u64.wrap (s[at_ + j].toNat : Int) = (s[at_ + j].toNat : Int) := by rw [IntKind.wrap_u64]; omega
        rw [w1, w2, bits_or_u64_nat _ _ (by omega) (by omega)]
        have h3 : u * 256 ||| s[at_ + j].toNat = u * 256 + s[at_ + j].toNat := by
          have := (Nat.two_pow_add_eq_or_of_lt (i := 8) (b := s[at_ + j].toNat) (by omega) u).symm
          rw [show 2 ^ 8 * u = u * 256 by omega] at this
          exact this
        rw [h3]
      go_round
      case rel => exact ⟨j + 1, by omega, by go_num, by rw [Hst.out]⟩
      case measure => simp [intOf]; omega
    · have dz : decide (j < n) = false := decide_eq_false hlt
      have Hd : Hid (t.take j = t) := List.take_of_length_le (by rw [Htl.out]; omega)
      rw [Hd.out]
      clear hlt
      go_wp2_with fail
      go_ret
      exact ⟨rfl, rfl⟩

/-- What Read holds. -/
def readV (x : Wr) (A : Option Addr) (c : Nat) (next : Int) : Value := .agg #[.int .i64 x.k, .int .i64 x.n, .string x.s, .slice A x.l.length c, .int .i64 next]
def ReadBad (w : World) (e : Ending) (w' : World) : Prop := e = .returned (.agg #[.int .i64 0, .int .i64 0, .string ⟨#[]⟩, .slice none 0 0, .int .i64 (-1)]) ∧ w.grownBy w' none
def ReadGot (x : Wr) (next : Nat) (w : World) (e : Ending) (w' : World) : Prop := ∃ A c, e = .returned (.agg #[.int .i64 x.k, .int .i64 x.n, .string x.s, .slice A x.l.length c, .int .i64 (next : Int)]) ∧ HL w' w.heap.size (.slice A x.l.length c) x.l ∧ w.grownBy w' none
set_option maxHeartbeats 4000000 in
set_option maxRecDepth 100000 in
theorem read_short (s : ByteArray) (at_ : Nat) (R : Int) (w : World) (hs : s.size ≤ 1099511627776) (hl : s.size < at_ + 5) (ha : at_ ≤ s.size) :
    Calls Tryz.prog 49 #[.string s, .int .i64 (at_ : Int), .int .i64 R] w (ReadBad w) := by
  have d1 : decide ((s.size : Int) < (at_ : Int) + 5) = true := decide_eq_true (by omega)
  go_enter Tryz.func49, Tryz.ntmps49
  go_wp2_with fail
  refine bodyPost_ret (v := .agg #[.int .i64 0, .int .i64 0, .string ⟨#[]⟩, .slice none 0 0, .int .i64 (-1)]) (by simp [results, Tryz.results49, go_sem]) rfl ?_
  exact ⟨rfl, gb_alloc (gb_refl _ _) _⟩
set_option maxHeartbeats 4000000 in
set_option maxRecDepth 100000 in
theorem read_nonum (s : ByteArray) (at_ : Nat) (R : Int) (w : World) (hs : s.size ≤ 1099511627776) (hl : at_ + 5 ≤ s.size) (hk : (s[at_]'(by omega)).toNat = 1) (h9 : s.size < at_ + 9) :
    Calls Tryz.prog 49 #[.string s, .int .i64 (at_ : Int), .int .i64 R] w (ReadBad w) := by
  have d1 : decide ((s.size : Int) < (at_ : Int) + 5) = false := decide_eq_false (by omega)
  have hat : at_ < s.size := by omega
  have hk1 : ((s[at_]'hat).toNat : Int) = 1 := by omega
  have d2 : decide ((s.size : Int) < (at_ : Int) + 9) = true := decide_eq_true (by omega)
  clear hk
  go_enter Tryz.func49, Tryz.ntmps49
  go_wp2_with fail
  refine bodyPost_ret (v := .agg #[.int .i64 0, .int .i64 0, .string ⟨#[]⟩, .slice none 0 0, .int .i64 (-1)]) (by simp [results, Tryz.results49, go_sem]) rfl ?_
  exact ⟨rfl, gb_alloc (gb_alloc (gb_refl _ _) _) _⟩
set_option maxHeartbeats 4000000 in
set_option maxRecDepth 100000 in
theorem read_num (s : ByteArray) (at_ : Nat) (R : Int) (w : World) (hs : s.size ≤ 1099511627776) (hl : at_ + 5 ≤ s.size) (hk : (s[at_]'(by omega)).toNat = 1) (h9 : at_ + 9 ≤ s.size) :
    Calls Tryz.prog 49 #[.string s, .int .i64 (at_ : Int), .int .i64 R] w (ReadGot (num (valI ((s.data.toList.drop (at_ + 1)).take 8))) (at_ + 9) w) := by
  have d1 : decide ((s.size : Int) < (at_ : Int) + 5) = false := decide_eq_false (by omega)
  have hat : at_ < s.size := by omega
  have hk1 : ((s[at_]'hat).toNat : Int) = 1 := by omega
  have d2 : decide ((s.size : Int) < (at_ : Int) + 9) = false := decide_eq_false (by omega)
  obtain ⟨V, HV⟩ : ∃ V, Hid (valI ((s.data.toList.drop (at_ + 1)).take 8) = V) := ⟨_, rfl⟩
  rw [HV.out]
  have hn := fun W => number_ref s (at_ + 1) 8 W (by decide) (by omega) hs
  rw [HV.out] at hn
  have Hn := Lib.hid hn
  clear hk hn
  go_enter Tryz.func49, Tryz.ntmps49
  go_wp2_with fail
  refine (Hn.out _).mono ?_
  rintro e w2 ⟨rfl, rfl⟩
  go_wp2_with fail
  refine bodyPost_ret (v := .agg #[.int .i64 1, .int .i64 V, .string ⟨#[]⟩, .slice none 0 0, .int .i64 ((at_ : Int) + 9)]) (by simp [results, Tryz.results49, go_sem]) rfl ?_
  exact ⟨none, 0, by rw [show ((at_ + 9 : Nat) : Int) = (at_ : Int) + 9 by omega]; rfl, .nil _ _, gb_alloc (gb_alloc (gb_refl _ _) _) _⟩
set_option maxHeartbeats 4000000 in
set_option maxRecDepth 100000 in
theorem read_text (s : ByteArray) (at_ : Nat) (R : Int) (w : World) (hs : s.size ≤ 1099511627776) (hl : at_ + 5 ≤ s.size) (hk : (s[at_]'(by omega)).toNat = 2) (hN : beN ((s.data.toList.drop (at_ + 1)).take 4) ≤ 1048576) (hN2 : beN ((s.data.toList.drop (at_ + 1)).take 4) + at_ + 5 ≤ s.size) :
    Calls Tryz.prog 49 #[.string s, .int .i64 (at_ : Int), .int .i64 R] w (ReadGot (txt (s.extract (at_ + 5) (at_ + 5 + beN ((s.data.toList.drop (at_ + 1)).take 4)))) (at_ + 5 + beN ((s.data.toList.drop (at_ + 1)).take 4)) w) := by
  have d1 : decide ((s.size : Int) < (at_ : Int) + 5) = false := decide_eq_false (by omega)
  have hat : at_ < s.size := by omega
  have hk1 : ((s[at_]'hat).toNat : Int) = 2 := by omega
  obtain ⟨N, HN⟩ : ∃ N, Hid (beN ((s.data.toList.drop (at_ + 1)).take 4) = N) := ⟨_, rfl⟩
  have hn := fun W => number_ref s (at_ + 1) 4 W (by decide) (by omega) hs
  rw [four_nat, HN.out] at hn
  have Hn := Lib.hid hn
  rw [HN.out] at hN
  rw [HN.out] at hN2 ⊢
  have d2 : decide ((N : Int) ≤ 1048576) = true := decide_eq_true (by omega)
  have d3 : decide ((N : Int) ≤ (s.size : Int) - (at_ : Int) - 5) = true := decide_eq_true (by omega)
  have h5 : at_ + 5 ≤ at_ + 5 + N := by omega
  have h6 : at_ + 5 + N ≤ s.size := by omega
  have h7 : (at_ : Int) + 5 ≤ (at_ : Int) + 5 + (N : Int) := by omega
  have h8 : (at_ : Int) + 5 + (N : Int) ≤ (s.size : Int) := by omega
  have h9 : N ≤ 1048576 := by omega
  have hsl : ∀ W : World, (Instr.slice 9 (.string s) (some (.int .i64 ((at_ : Int) + 5))) (some (.int .i64 ((at_ : Int) + 5 + (N : Int)))) none).run Tryz.prog W = .ok (.string (s.extract (at_ + 5) (at_ + 5 + N))) W := fun W => by
    have h := run_slice_string (P := Tryz.prog) (w := W) 9 s .i64 .i64 ((at_ : Int) + 5) ((at_ : Int) + 5 + (N : Int)) Tryz.underlying9 (by omega) (by omega) (by omega)
    rw [show ((at_ : Int) + 5).toNat = at_ + 5 by omega, show ((at_ : Int) + 5 + (N : Int)).toNat = at_ + 5 + N by omega] at h
    exact h
  clear hk hn
  go_enter Tryz.func49, Tryz.ntmps49
  go_wp2_with fail
  refine (Hn.out _).mono ?_
  rintro e w2 ⟨rfl, rfl⟩
  go_wp2_with fail
  obtain ⟨u, hu⟩ : ∃ u, u = s.extract (at_ + 5) (at_ + 5 + N) := ⟨_, rfl⟩
  rw [← hu]
  refine bodyPost_ret (v := .agg #[.int .i64 2, .int .i64 0, .string u, .slice none 0 0, .int .i64 ((at_ : Int) + 5 + N)]) (by simp [results, Tryz.results49, go_sem]) rfl ?_
  exact ⟨none, 0, by rw [show ((at_ + 5 + N : Nat) : Int) = (at_ : Int) + 5 + N by omega]; rfl, .nil _ _, gb_alloc (gb_alloc (gb_refl _ _) _) _⟩
set_option maxHeartbeats 4000000 in
set_option maxRecDepth 100000 in
theorem read_notext (s : ByteArray) (at_ : Nat) (R : Int) (w : World) (hs : s.size ≤ 1099511627776) (hl : at_ + 5 ≤ s.size) (hk : (s[at_]'(by omega)).toNat = 2) (hN : 1048576 < beN ((s.data.toList.drop (at_ + 1)).take 4) ∨ s.size < beN ((s.data.toList.drop (at_ + 1)).take 4) + at_ + 5) :
    Calls Tryz.prog 49 #[.string s, .int .i64 (at_ : Int), .int .i64 R] w (ReadBad w) := by
  have d1 : decide ((s.size : Int) < (at_ : Int) + 5) = false := decide_eq_false (by omega)
  have hat : at_ < s.size := by omega
  have hk1 : ((s[at_]'hat).toNat : Int) = 2 := by omega
  obtain ⟨N, HN⟩ : ∃ N, Hid (beN ((s.data.toList.drop (at_ + 1)).take 4) = N) := ⟨_, rfl⟩
  have hn := fun W => number_ref s (at_ + 1) 4 W (by decide) (by omega) hs
  rw [four_nat, HN.out] at hn
  have Hn := Lib.hid hn
  rw [HN.out] at hN
  have key : decide ((N : Int) ≤ 1048576) = false ∨ (decide ((N : Int) ≤ 1048576) = true ∧ decide ((N : Int) ≤ (s.size : Int) - (at_ : Int) - 5) = false) := by
    by_cases h : (N : Int) ≤ 1048576
    · exact .inr ⟨decide_eq_true h, decide_eq_false (by omega)⟩
    · exact .inl (decide_eq_false h)
  clear hk hn hN
  rcases key with k1 | ⟨k1, k2⟩
  all_goals
    go_enter Tryz.func49, Tryz.ntmps49
    go_wp2_with fail
    refine (Hn.out _).mono ?_
    rintro e w2 ⟨rfl, rfl⟩
    go_wp2_with fail
    refine bodyPost_ret (v := .agg #[.int .i64 0, .int .i64 0, .string ⟨#[]⟩, .slice none 0 0, .int .i64 (-1)]) (by simp [results, Tryz.results49, go_sem]) rfl ?_
    exact ⟨rfl, gb_alloc (gb_alloc (gb_refl _ _) _) _⟩
set_option maxHeartbeats 4000000 in
set_option maxRecDepth 100000 in
theorem read_nokind (s : ByteArray) (at_ : Nat) (R : Int) (w : World) (hs : s.size ≤ 1099511627776) (hl : at_ + 5 ≤ s.size) (h1 : (s[at_]'(by omega)).toNat ≠ 1) (h2 : (s[at_]'(by omega)).toNat ≠ 2) (h3 : (s[at_]'(by omega)).toNat ≠ 3) :
    Calls Tryz.prog 49 #[.string s, .int .i64 (at_ : Int), .int .i64 R] w (ReadBad w) := by
  have d1 : decide ((s.size : Int) < (at_ : Int) + 5) = false := decide_eq_false (by omega)
  have hat : at_ < s.size := by omega
  obtain ⟨K, HK⟩ : ∃ K : Int, Hid (((s[at_]'hat).toNat : Int) = K) := ⟨_, rfl⟩
  have k0 : ((s[at_]'hat).toNat : Int) = K := HK.out
  have kk : 0 ≤ K ∧ K ≤ 255 := by have := (s[at_]'hat).toNat_lt; omega
  have e1 : (K == 1) = false := by simp; omega
  have e2 : (K == 2) = false := by simp; omega
  have e3 : (K == 3) = false := by simp; omega
  have e4 : (K != 3) = true := by simp only [bne, e3]; rfl
  have hN : True := trivial
  obtain ⟨N, HN⟩ : ∃ N, Hid (beN ((s.data.toList.drop (at_ + 1)).take 4) = N) := ⟨_, rfl⟩
  have hn := fun W => number_ref s (at_ + 1) 4 W (by decide) (by omega) hs
  rw [four_nat, HN.out] at hn
  have Hn := Lib.hid hn
  clear h1 h2 h3 hn hN
  go_enter Tryz.func49, Tryz.ntmps49
  go_wp2_with fail
  refine (Hn.out _).mono ?_
  rintro e w2 ⟨rfl, rfl⟩
  go_wp2_with fail
  refine bodyPost_ret (v := .agg #[.int .i64 0, .int .i64 0, .string ⟨#[]⟩, .slice none 0 0, .int .i64 (-1)]) (by simp [results, Tryz.results49, go_sem]) rfl ?_
  exact ⟨rfl, gb_alloc (gb_alloc (gb_refl _ _) _) _⟩
set_option maxHeartbeats 4000000 in
set_option maxRecDepth 100000 in
theorem read_nolist (s : ByteArray) (at_ : Nat) (R : Int) (w : World) (hs : s.size ≤ 1099511627776) (hl : at_ + 5 ≤ s.size) (hk : (s[at_]'(by omega)).toNat = 3) (hN : 65536 < beN ((s.data.toList.drop (at_ + 1)).take 4) ∨ R < 1) :
    Calls Tryz.prog 49 #[.string s, .int .i64 (at_ : Int), .int .i64 R] w (ReadBad w) := by
  have d1 : decide ((s.size : Int) < (at_ : Int) + 5) = false := decide_eq_false (by omega)
  have hat : at_ < s.size := by omega
  have hk1 : ((s[at_]'hat).toNat : Int) = 3 := by omega
  obtain ⟨N, HN⟩ : ∃ N, Hid (beN ((s.data.toList.drop (at_ + 1)).take 4) = N) := ⟨_, rfl⟩
  have hn := fun W => number_ref s (at_ + 1) 4 W (by decide) (by omega) hs
  rw [four_nat, HN.out] at hn
  have Hn := Lib.hid hn
  rw [HN.out] at hN
  have key : decide (65536 < (N : Int)) = true ∨ (decide (65536 < (N : Int)) = false ∧ decide (R < 1) = true) := by
    by_cases h : 65536 < (N : Int)
    · exact .inl (decide_eq_true h)
    · exact .inr ⟨decide_eq_false h, decide_eq_true (by omega)⟩
  clear hk hn hN
  rcases key with k1 | ⟨k1, k2⟩
  all_goals
    go_enter Tryz.func49, Tryz.ntmps49
    go_wp2_with fail
    refine (Hn.out _).mono ?_
    rintro e w2 ⟨rfl, rfl⟩
    go_wp2_with fail
    refine bodyPost_ret (v := .agg #[.int .i64 0, .int .i64 0, .string ⟨#[]⟩, .slice none 0 0, .int .i64 (-1)]) (by simp [results, Tryz.results49, go_sem]) rfl ?_
    exact ⟨rfl, gb_alloc (gb_alloc (gb_refl _ _) _) _⟩
end Go.Proofs.YthijiefopcnclaaGreatDoor

namespace Go.Proofs.YthijiefopcnclaaGreatDoor
open Go.RowKit Wd Mm Vw

abbrev Off2 (B : Nat) (v : Value) (g : Nat) : Prop := B ≤ g ∧ some g ≠ v.ownBlock
theorem HP.after2 {w w' : World} {B : Nat} {u u' v : Value} {l : List Wr} (h : HP w (Off2 B u) v l) (hg : w.grownBy w' u.ownBlock) (ha : u'.ownBlock = u.ownBlock ∨ u'.ownBlock = some w.heap.size) : HP w' (Off2 B u') v l := by
  refine h.keep hg.size (fun g hP hl => ⟨hg.block g hl hP.2, hP.1, ?_⟩)
  rcases ha with e | e
  · rw [e]; exact hP.2
  · rw [e]; intro e2; have := Option.some.inj e2; omega
theorem HP.set1 {w : World} {B b i : Nat} {u v x : Value} {l : List Wr} (h : HP w (Off2 B u) v l) (hb : b < B) : HP (w.setCell ⟨b, i, none⟩ x) (Off2 B u) v l :=
  h.keep (by simp [World.setCell]) (fun g hP _ => ⟨heap_setCell_other _ _ _ _ (by have := hP.1; simp only [ne_eq]; omega), hP⟩)
theorem Own.set1 {w : World} {B b i : Nat} {v x : Value} {ps : List (Wr × Value)} (h : Own B v ps w) (hb : b < B) : Own B v ps (w.setCell ⟨b, i, none⟩ x) := by
  refine World.ownsRow.kept h (gb_set1 w b i x) (.inr fun e => ?_)
  have := (h.lt b e).1
  omega
theorem cells4' (w : World) (g : Nat) (hg : w.heap.size = g) (a0 a1 a2 a3 : Value) : ∀ (j : Nat) (u : Value), [a0, a1, a2, a3][j]? = some u → (w.alloc (.cells #[a0, a1, a2, a3] 60)).cell? ((⟨g, 0, none⟩ : Addr).add j) = some u := by
  subst hg; exact cells4 w a0 a1 a2 a3
theorem box5 {w : World} {b : Nat} {a0 a1 a2 a3 a4 : Value} {T : TypeId} (h : w.heap[b]? = some (.cells #[a0, a1, a2, a3, a4] T (0, 0))) :
    (w.cell? ⟨b, 0, none⟩ = some a0 ∧ w.cell? ⟨b, 1, none⟩ = some a1 ∧ w.cell? ⟨b, 2, none⟩ = some a2 ∧ w.cell? ⟨b, 3, none⟩ = some a3 ∧ w.cell? ⟨b, 4, none⟩ = some a4) ∧
    (w.frozen? ⟨b, 0, none⟩ = false ∧ w.frozen? ⟨b, 1, none⟩ = false ∧ w.frozen? ⟨b, 2, none⟩ = false ∧ w.frozen? ⟨b, 3, none⟩ = false ∧ w.frozen? ⟨b, 4, none⟩ = false) ∧ b < w.heap.size :=
  ⟨⟨cell_of_row w b 0 _ _ _ h, cell_of_row w b 1 _ _ _ h, cell_of_row w b 2 _ _ _ h, cell_of_row w b 3 _ _ _ h, cell_of_row w b 4 _ _ _ h⟩, ⟨frozen_of_row w b 0 _ _ h, frozen_of_row w b 1 _ _ h, frozen_of_row w b 2 _ _ h, frozen_of_row w b 3 _ _ h, frozen_of_row w b 4 _ _ h⟩, (Array.getElem?_eq_some_iff.1 h).1⟩
theorem set5_row {w : World} {g : Nat} {x0 x1 x2 x3 x4 : Value} {T : TypeId} (h : w.heap[g]? = some (.cells #[x0, x1, x2, x3, x4] T (0, 0))) (v0 v1 v2 v3 v4 : Value) :
    (((((w.setCell ⟨g, 0, none⟩ v0).setCell ⟨g, 1, none⟩ v1).setCell ⟨g, 2, none⟩ v2).setCell ⟨g, 3, none⟩ v3).setCell ⟨g, 4, none⟩ v4).heap[g]? = some (.cells #[v0, v1, v2, v3, v4] T (0, 0)) :=
  heap_setCell_same _ g 4 _ _ _ (heap_setCell_same _ g 3 _ _ _ (heap_setCell_same _ g 2 _ _ _ (heap_setCell_same _ g 1 _ _ _ (heap_setCell_same w g 0 _ _ _ h))))
theorem gb_new5 {a w : World} {g : Nat} (hg : a.heap.size ≤ g) {v0 v1 v2 v3 v4 : Value} (h : a.grownBy w none) : a.grownBy (((((w.setCell ⟨g, 0, none⟩ v0).setCell ⟨g, 1, none⟩ v1).setCell ⟨g, 2, none⟩ v2).setCell ⟨g, 3, none⟩ v3).setCell ⟨g, 4, none⟩ v4) none :=
  gb_new (gb_new4 hg h) (gb_set1 _ _ _ _) hg
/-- As Own.list, all blocks from C on. -/
theorem Own.listAt {B C : Nat} {v : Value} {ps : List (Wr × Value)} {w : World} (h : Own B v ps w) (hn : ps.length ≤ 1099511627776) (hCB : C ≤ B) (hp : ∀ p ∈ ps, HL w C p.2 p.1.l) : HL w C v (ps.map Prod.fst) := by
  have hcells := fun (g : Nat) (hg : v.ownBlock = some g) => World.ownsRow.cells h hg
  rcases h.2 with ⟨rfl, h0⟩ | ⟨g, cap, cur, rfl, hB, hg, _⟩
  · rw [List.length_eq_zero_iff.1 h0]; exact .nil _ _
  · have hc : ∀ j u, (flat ps)[j]? = some u → w.cell? ⟨g, 0 + j, none⟩ = some u := fun j u hu => by
      have := hcells g rfl j u hu
      have hadd : (⟨g, 0, none⟩ : Addr).add j = ⟨g, 0 + j, none⟩ := by unfold Addr.add; split <;> simp_all
      rwa [hadd] at this
    have hl : (ps.map Prod.fst).length = ps.length := List.length_map _
    have key : ∀ (i : Nat) (x : Wr), (ps.map Prod.fst)[i]? = some x → ∃ p : Wr × Value, ps[i]? = some p ∧ p.1 = x := fun i x hx => by
      rw [List.getElem?_map] at hx
      obtain ⟨p, h1, h2⟩ := Option.map_eq_some_iff.1 hx
      exact ⟨p, h1, h2⟩
    rw [← hl]
    refine .row g 0 cap _ (fun i => match ps[i]? with | some p => p.2 | none => .nilIface) (by omega) (Array.getElem?_eq_some_iff.1 hg).1 (by rw [hl]; exact hn) ?_ ?_ ?_ ?_ ?_
    · intro i x hx; obtain ⟨p, h1, rfl⟩ := key i x hx; exact hc _ _ (flat_get ps i p h1).1
    · intro i x hx; obtain ⟨p, h1, rfl⟩ := key i x hx; exact hc _ _ (flat_get ps i p h1).2.1
    · intro i x hx; obtain ⟨p, h1, rfl⟩ := key i x hx; exact hc _ _ (flat_get ps i p h1).2.2.1
    · intro i x hx; obtain ⟨p, h1, rfl⟩ := key i x hx; simp only [h1]; exact hc _ _ (flat_get ps i p h1).2.2.2
    · intro i x hx; obtain ⟨p, h1, rfl⟩ := key i x hx; simp only [h1]; exact hp p (List.mem_of_getElem? h1)
theorem HP.listAt {w : World} {P : Nat → Prop} {C : Nat} {v : Value} {l : List Wr} (h : HP w P v l) (hP : ∀ g, P g → C ≤ g) : HL w C v l := by
  induction h with
  | nil A c => exact .nil A c
  | row g o c l L hB hg hn hk hv hs hL hl ih => exact .row g o c l L (hP g hB) hg hn hk hv hs hL ih
/-- What read does, where so many lists may still stand in one another. -/
def RefReads (s : ByteArray) (ρ : Int) (f : List UInt8 → Option (Wr × List UInt8)) : Prop := ∀ (at_ : Nat) (w : World), at_ ≤ s.size →
  (f (s.data.toList.drop at_) = none → Calls Tryz.prog 49 #[.string s, .int .i64 (at_ : Int), .int .i64 ρ] w (ReadBad w)) ∧
  (∀ x t, f (s.data.toList.drop at_) = some (x, t) → Calls Tryz.prog 49 #[.string s, .int .i64 (at_ : Int), .int .i64 ρ] w (ReadGot x (s.size - t.length) w))
/-- What is left is the end of what there was. -/
def Suffix (f : List UInt8 → Option (Wr × List UInt8)) : Prop := ∀ s x t, f s = some (x, t) → ∃ p, s = p ++ t ∧ 5 ≤ p.length
theorem rd_suffix (R : Nat) : Suffix (rd R) := fun s x t h => by
  have h1 := (rd_back R s x t h).1
  have h2 := rd_len R s x t h
  refine ⟨x.enc, h1, ?_⟩
  rw [h1, List.length_append] at h2
  omega
def ReadRes (s : ByteArray) (R : Option (List Wr × List UInt8)) (w : World) (e : Ending) (w' : World) : Prop := match R with
  | none => ReadBad w e w'
  | some p => ReadGot (lst p.1) (s.size - p.2.length) w e w'
set_option maxHeartbeats 16000000 in
set_option maxRecDepth 100000 in
theorem read_list (s : ByteArray) (at_ : Nat) (R : Int) (w : World) (hs : s.size ≤ 1099511627776) (hl : at_ + 5 ≤ s.size) (hk : (s[at_]'(by omega)).toNat = 3) (hN : beN ((s.data.toList.drop (at_ + 1)).take 4) ≤ 65536) (hR1 : 1 ≤ R) (hR2 : R ≤ 100)
    (f : List UInt8 → Option (Wr × List UInt8)) (hsuf : Suffix f) (ih : RefReads s (R - 1) f) (Q : Option (List Wr × List UInt8)) (hQ : rds f (beN ((s.data.toList.drop (at_ + 1)).take 4)) (s.data.toList.drop (at_ + 5)) = Q) :
    Calls Tryz.prog 49 #[.string s, .int .i64 (at_ : Int), .int .i64 R] w (ReadRes s Q w) := by
  have d1 : decide ((s.size : Int) < (at_ : Int) + 5) = false := decide_eq_false (by omega)
  have hat : at_ < s.size := by omega
  have hk1 : ((s[at_]'hat).toNat : Int) = 3 := by omega
  obtain ⟨N, HN⟩ : ∃ N, Hid (beN ((s.data.toList.drop (at_ + 1)).take 4) = N) := ⟨_, rfl⟩
  have hn := fun W => number_ref s (at_ + 1) 4 W (by decide) (by omega) hs
  rw [four_nat, HN.out] at hn
  have Hn := Lib.hid hn
  rw [HN.out] at hN hQ
  have d2 : decide (65536 < (N : Int)) = false := decide_eq_false (by omega)
  have d3 : decide (R < 1) = false := decide_eq_false (by omega)
  have HQ := Lib.hid hQ
  have Hih := Lib.hid ih
  have Hsuf := Lib.hid hsuf
  obtain ⟨iW, hi, hz, hs4, hb56⟩ := wire_parts
  have Hi := Lib.hid hi
  have Hz := Lib.hid hz
  have Hs4 := Lib.hid hs4
  have Hb56 := Lib.hid hb56
  clear hk hn hQ ih hsuf hi hz hs4 hb56
  go_enter Tryz.func49, Tryz.ntmps49
  go_wp2_with fail
  refine (Hn.out _).mono ?_
  rintro e w2 ⟨rfl, rfl⟩
  go_wp2_with fail
  clear d1 d2 d3 hk1
  go_loopw [9, 10] (fun nx i wr => ∃ (k next : Nat) (ps : List (Wr × Value)) (v : Value), k ≤ N ∧ i = .int .i64 k ∧ nx = .int .i64 (next : Int) ∧ next ≤ s.size ∧ Hid (rds f N (s.data.toList.drop (at_ + 5)) = (rds f (N - k) (s.data.toList.drop next)).map fun p => (ps.map Prod.fst ++ p.1, p.2)) ∧ Hid (Own (w.heap.size + 2) v ps wr) ∧ Hid (ps.length = k) ∧ Hid (∀ p ∈ ps, HP wr (Off2 (w.heap.size + 2) v) p.2 p.1.l) ∧
    Hid (wr.heap[w.heap.size]? = some (.cells #[.int .i64 0, .int .i64 0, .string ⟨#[]⟩, .slice none 0 0, .int .i64 0] 104 (0, 0))) ∧ Hid (wr.heap[w.heap.size + 1]? = some (.cells #[.int .i64 3, .int .i64 0, .string ⟨#[]⟩, v] 60 (0, 0))) ∧ Hid (w.grownBy wr none)) (fun _ i _ => N - (intOf i).toNat)
  case atStart =>
    refine ⟨0, at_ + 5, [], .slice none 0 0, Nat.zero_le _, rfl, by go_num, hl, ?_, Own.nil _ _, rfl, (by intro p hp; cases hp), ?_, ?_, gb_alloc (gb_alloc (gb_refl _ _) _) _⟩
    · show _ = _; simp
    · exact (Below.heap_alloc _ _ w.heap.size (by simp)).trans (heap_alloc_new w _)
    · show _ = _
      have := heap_alloc_new (w.alloc (.cells #[.int .i64 0, .int .i64 0, .string ⟨#[]⟩, .slice none 0 0, .int .i64 0] 104)) (.cells #[.int .i64 3, .int .i64 0, .string ⟨#[]⟩, .slice none 0 0] 60)
      simpa using this
  case round =>
    obtain ⟨k, next, ps, v, hk, rfl, rfl, hnx, Hq, Ho, Hl, Hps, Hrow, Hbox, Hg⟩ := hrel
    obtain ⟨A, c, rfl⟩ := Ho.out.slice
    by_cases hlt : k < N
    · have dz : decide (k < N) = true := decide_eq_true hlt
      have Hone := Lib.hid (Hih.out next wr hnx)
      obtain ⟨m, Hm⟩ : ∃ m : Nat, Hid (N - k = m + 1) := ⟨N - k - 1, by show _ = _; omega⟩
      have Hq2 : Hid (rds f N (s.data.toList.drop (at_ + 5)) = (rds f (m + 1) (s.data.toList.drop next)).map fun p => (ps.map Prod.fst ++ p.1, p.2)) := by
        show _ = _
        rw [Hq.out, Hm.out]
      clear Hq
      obtain ⟨fu, Hfu⟩ : ∃ fu, Hid (f (s.data.toList.drop next) = fu) := ⟨_, rfl⟩
      cases fu with
      | none =>
        have Hbad := Lib.hid (Hone.out.1 Hfu.out)
        have HRn : Hid (Q = none) := by
          show _ = _
          rw [← HQ.out, Hq2.out, rds_none Hfu.out]; rfl
        clear Hone Hq2 Hfu
        go_wp2_with fail
        refine Hbad.out.mono ?_
        rintro e w4 ⟨rfl, g4⟩
        have Hrow4 := Lib.hid (row_kept Hrow.out g4)
        obtain ⟨⟨b0, b1, b2, b3, b4⟩, ⟨f0, f1, f2, f3, f4⟩, hbl⟩ := box5 Hrow4.out
        have Hg4 := Lib.hid (gb_none Hg.out g4)
        clear g4
        go_wp2_with fail
        obtain ⟨⟨q0, q1, q2, q3, q4⟩, _, _⟩ := box5 ((Below.heap_alloc _ (.cells #[.int .i64 0, .int .i64 0, .string ⟨#[]⟩, .slice none 0 0, .int .i64 (-1)] 104) w.heap.size (by simp [World.setCell]; omega)).trans (set5_row Hrow4.out (.int .i64 0) (.int .i64 0) (.string ⟨#[]⟩) (.slice none 0 0) (.int .i64 (-1))))
        refine bodyPost_ret (v := .agg #[.int .i64 0, .int .i64 0, .string ⟨#[]⟩, .slice none 0 0, .int .i64 (-1)]) (by simp [results, Tryz.results49, go_sem, q0, q1, q2, q3, q4]) rfl ?_
        unfold ReadRes
        rw [HRn.out]
        exact ⟨rfl, gb_alloc (gb_new5 (Nat.le_refl _) Hg4.out) _⟩
      | some q =>
        obtain ⟨x, u'⟩ := q
        have Hgood := Lib.hid (Hone.out.2 x u' Hfu.out)
        obtain ⟨p, hp1, hp2⟩ := Hsuf.out _ _ _ Hfu.out
        have hlen : s.size = next + p.length + u'.length := by
          have := congrArg List.length hp1
          rw [List.length_drop, List.length_append] at this
          simp only [Array.length_toList] at this
          have e : s.data.size = s.size := rfl
          omega
        obtain ⟨nx2, hnx2⟩ : ∃ nx2 : Nat, nx2 = s.size - u'.length := ⟨_, rfl⟩
        have hnx3 : nx2 = next + p.length := by omega
        have hnx4 : nx2 ≤ s.size := by omega
        have Hdrop : Hid (s.data.toList.drop nx2 = u') := by
          show _ = _
          rw [hnx3, ← List.drop_drop, hp1, List.drop_left]
        rw [← hnx2] at Hgood
        have Hq3 : Hid (rds f N (s.data.toList.drop (at_ + 5)) = (rds f (N - (k + 1)) (s.data.toList.drop nx2)).map fun p => ((ps ++ [(x, Value.nilIface)]).map Prod.fst ++ p.1, p.2)) := by
          show _ = _
          rw [Hq2.out, rds_some Hfu.out, Option.map_map, Hdrop.out, show N - (k + 1) = m by have := Hm.out; omega]
          congr 1
          funext p
          simp
        clear Hone Hq2 Hfu hnx2 hnx3 hp1 hp2 hlen Hdrop
        have dn : decide ((nx2 : Int) < 0) = false := decide_eq_false (by omega)
        go_wp2_with fail
        refine Hgood.out.mono ?_
        rintro e w4 ⟨A', c', rfl, hx4, g4⟩
        have Hg4 := Lib.hid (gb_none Hg.out g4)
        have Hbox4 := Lib.hid (row_kept Hbox.out g4)
        have Hrow4 := Lib.hid (row_kept Hrow.out g4)
        have Hx4 := Lib.hid hx4
        have Hps4 : Hid (∀ p ∈ ps, HP w4 (Off2 (w.heap.size + 2) (.slice A ps.length c)) p.2 p.1.l) := fun p hp => (Hps.out p hp).kept g4
        have Hol := Lib.hid (fun i e => (Ho.out.lt i e).2)
        have Ho4 := Lib.hid ((Ho.out.kept g4).kept (gb_alloc (gb_alloc (gb_refl w4 none) (.cells #[.int .i64 x.k, .int .i64 x.n, .string x.s, .slice A' x.l.length c', .int .i64 nx2] 104)) (.cells #[.int .i64 x.k, .int .i64 x.n, .string x.s, .slice A' x.l.length c'] 60)))
        obtain ⟨⟨b0, b1, b2, b3⟩, ⟨f0, f1, f2, f3⟩, hbl⟩ := box4 Hbox4.out
        have hwr : w.heap.size + 1 < wr.heap.size := (Array.getElem?_eq_some_iff.1 Hbox.out).1
        have hk5 : k ≤ 65536 := by omega
        have hw4 : w.heap.size + 1 < w4.heap.size := hbl
        have H7 : Hid (((w4.alloc (.cells #[.int .i64 x.k, .int .i64 x.n, .string x.s, .slice A' x.l.length c', .int .i64 nx2] 104)).alloc (.cells #[.int .i64 x.k, .int .i64 x.n, .string x.s, .slice A' x.l.length c'] 60)).heap[w.heap.size + 1]? = some (.cells #[.int .i64 3, .int .i64 0, .string ⟨#[]⟩, .slice A ps.length c] 60 (0, 0))) := row_kept Hbox4.out (gb_alloc (gb_alloc (gb_refl _ _) _) _)
        have H11 : Hid (((w4.alloc (.cells #[.int .i64 x.k, .int .i64 x.n, .string x.s, .slice A' x.l.length c', .int .i64 nx2] 104)).alloc (.cells #[.int .i64 x.k, .int .i64 x.n, .string x.s, .slice A' x.l.length c'] 60)).heap[w4.heap.size]? = some (.cells #[.int .i64 x.k, .int .i64 x.n, .string x.s, .slice A' x.l.length c', .int .i64 nx2] 104 (0, 0))) := (Below.heap_alloc _ _ w4.heap.size (by simp)).trans (heap_alloc_new w4 _)
        have Hne7 : Hid (some (w.heap.size + 1) ≠ (Value.slice A ps.length c).ownBlock) := fun e => by have := (Ho.out.lt _ e.symm).1; omega
        have Hne11 : Hid (some w4.heap.size ≠ (Value.slice A ps.length c).ownBlock) := fun e => by have := Hol.out _ e.symm; have := g4.size; omega
        clear g4 hx4
        go_wp2_with (at_builtin; refine wpList_append_own_at _ rfl (.tmp 107) (.tmp 110) 58 rfl (w.heap.size + 2) 60 iW (.agg #[.int .i64 0, .int .i64 0, .string ⟨#[]⟩, .slice none 0 0]) 4 56 Tryz.underlying58 Hi.out Hz.out Hs4.out Hb56.out rfl (by decide) _ ps.length _ rfl Ho4.out ⟨w4.heap.size + 1, 0, none⟩ 1 1 [.int .i64 x.k, .int .i64 x.n, .string x.s, .slice A' x.l.length c'] rfl rfl (cells4' _ _ (by simp) _ _ _ _) (one4 _ _ _ _ _ _) (by have := Hl.out; simp only [maxLen]; omega) (by have := Hl.out; omega) (by simp; omega) ?_; intro v' w' own' grow' _ hat; obtain ⟨vA, vn, vc, rfl⟩ := own_slice4 own'; have hr7 := (grow'.block (w.heap.size + 1) (by simp; omega) Hne7.out).trans H7.out; have hr11 := (grow'.block w4.heap.size (by simp; omega) Hne11.out).trans H11.out; have c7 := cell_of_row w' (w.heap.size + 1) 3 _ _ _ hr7; have f7 := frozen_of_row w' (w.heap.size + 1) 3 _ _ hr7; have c11 := cell_of_row w' w4.heap.size 4 _ _ _ hr11)
        have Hown' : Hid (Own (w.heap.size + 2) (.slice vA vn vc) (ps ++ [(x, .slice A' x.l.length c')]) w') := by
          show World.ownsRow _ _ _ _ _ _ _
          rw [flat_snoc, List.length_append]
          exact own'
        have Hset := Lib.hid (heap_setCell_same w' (w.heap.size + 1) 3 _ _ (.slice vA vn vc) hr7)
        have Hgw' : Hid (w.grownBy w' none) := gb_step (gb_alloc (gb_alloc Hg4.out _) _) grow' (fun i e => .inr (by have := (Ho4.out.lt i e).1; omega))
        have Hrow' : Hid (w'.heap[w.heap.size]? = some (.cells #[.int .i64 0, .int .i64 0, .string ⟨#[]⟩, .slice none 0 0, .int .i64 0] 104 (0, 0))) :=
          (grow'.block w.heap.size (by simp; omega) (fun e => by have := (Ho.out.lt _ e.symm).1; omega)).trans (row_kept Hrow4.out (gb_alloc (gb_alloc (gb_refl _ _) _) _))
        have Hps' : Hid (∀ p ∈ ps ++ [(x, Value.slice A' x.l.length c')], HP w' (Off2 (w.heap.size + 2) (.slice vA vn vc)) p.2 p.1.l) := by
          intro p hp
          rcases List.mem_append.1 hp with hp | hp
          · exact HP.after2 ((Hps4.out p hp).kept (gb_alloc (gb_alloc (gb_refl _ _) _) _)) grow' hat
          · rw [List.mem_singleton.1 hp]
            refine HP.after2 (u := .slice A ps.length c) ?_ grow' hat
            refine (HP.of Hx4.out).keep (by simp; omega) (fun g hB hl => ⟨(Below.heap_alloc _ _ g (by simp; omega)).trans (Below.heap_alloc w4 _ g hl), by omega, fun e => ?_⟩)
            have := Hol.out g e.symm
            omega
        clear own' grow' hat hr7 hr11 b0 b1 b2 b3 f0 f1 f2 f3
        go_roundw
        case rel =>
          refine ⟨k + 1, nx2, ps ++ [(x, .slice A' x.l.length c')], .slice vA vn vc, by omega, by go_num, rfl, hnx4, ?_, Lib.hid (Hown'.out.set1 (by omega)), ?_, ?_, ?_, Hset, Lib.hid (gb_new Hgw'.out (gb_set1 _ _ _ _) (by omega))⟩
          · have := Hq3.out
            show _ = _
            rw [this]
            simp
          · show _ = _; rw [List.length_append, Hl.out]; rfl
          · exact fun p hp => (Hps'.out p hp).set1 (by omega)
          · exact (heap_setCell_other _ _ _ _ (by simp)).trans Hrow'.out
        case measure => simp [intOf]; omega
    · have dz : decide (k < N) = false := decide_eq_false hlt
      have Hk : Hid (k = N) := by show _ = _; omega
      have Hh := Lib.hid (Ho.out.listAt (by have := Hl.out; omega) (C := w.heap.size + 2) (Nat.le_refl _) (fun p hp => (Hps.out p hp).listAt (fun g hg => hg.1)))
      have HQs : Hid (Q = some (ps.map Prod.fst, s.data.toList.drop next)) := by
        show _ = _
        rw [← HQ.out, Hq.out, Hk.out, Nat.sub_self]; simp [rds]
      have Hnx : Hid (s.size - (s.data.toList.drop next).length = next) := by
        show _ = _
        rw [List.length_drop]
        have e : s.data.toList.length = s.size := by simp
        omega
      obtain ⟨⟨b0, b1, b2, b3⟩, _, _⟩ := box4 Hbox.out
      obtain ⟨⟨r0, r1, r2, r3, r4⟩, ⟨f0, f1, f2, f3, f4⟩, _⟩ := box5 Hrow.out
      clear hlt
      go_wp2_with fail
      obtain ⟨⟨q0, q1, q2, q3, q4⟩, _, _⟩ := box5 (set5_row Hrow.out (.int .i64 3) (.int .i64 0) (.string ⟨#[]⟩) (.slice A ps.length c) (.int .i64 (next : Int)))
      refine bodyPost_ret (v := .agg #[.int .i64 3, .int .i64 0, .string ⟨#[]⟩, .slice A ps.length c, .int .i64 (next : Int)]) (by simp [results, Tryz.results49, go_sem, q0, q1, q2, q3, q4]) rfl ?_
      unfold ReadRes
      rw [HQs.out]
      have hle : ((lst (ps.map Prod.fst)).l).length = ps.length := List.length_map _
      refine ⟨A, c, ?_, ?_, gb_new5 (Nat.le_refl _) Hg.out⟩
      · rw [Hnx.out, hle]; rfl
      · rw [hle]
        refine (Hh.out.grown (gb_then (gb_then (gb_then (gb_then (gb_set1 _ w.heap.size _ _) (gb_set1 _ _ _ _)) (gb_set1 _ _ _ _)) (gb_set1 _ _ _ _)) (gb_set1 _ _ _ _)) (fun m e => ?_)).low (by omega)
        cases e; omega
end Go.Proofs.YthijiefopcnclaaGreatDoor

namespace Go.Proofs.YthijiefopcnclaaGreatDoor
open Go.RowKit Wd Mm Vw

theorem data_len (s : ByteArray) : s.data.toList.length = s.size := by simp
theorem suffix_len {f : List UInt8 → Option (Wr × List UInt8)} (h : Suffix f) : ∀ s x t, f s = some (x, t) → t.length + 5 ≤ s.length := by
  intro s x t hf
  obtain ⟨p, rfl, hp⟩ := h s x t hf
  rw [List.length_append]; omega
theorem ref_of (s : ByteArray) (hs : s.size ≤ 1099511627776) (R : Int) (hR : R ≤ 100) (sub : Option (List UInt8 → Option (Wr × List UInt8))) (hsub : (sub = none ∧ R < 1) ∨ ∃ f, sub = some f ∧ 1 ≤ R ∧ Suffix f ∧ RefReads s (R - 1) f) : RefReads s R (rdB sub) := by
  intro at_ w hat
  have hsl : ∀ f, sub = some f → ∀ s x t, f s = some (x, t) → t.length + 5 ≤ s.length := by
    intro f hf
    rcases hsub with ⟨h, _⟩ | ⟨g, h, _, hg, _⟩
    · rw [h] at hf; cases hf
    · rw [h] at hf; cases hf; exact suffix_len hg
  have hdl := data_len s
  by_cases h5 : s.size < at_ + 5
  · refine ⟨fun _ => read_short s at_ R w hs h5 hat, fun x t hx => ?_⟩
    have := rdB_len hsl _ _ _ hx
    rw [List.length_drop] at this
    omega
  have ha : at_ < s.size := by omega
  have hl : at_ + 5 ≤ s.size := by omega
  have hcons : s.data.toList.drop at_ = s[at_] :: s.data.toList.drop (at_ + 1) := by
    rw [List.drop_eq_getElem_cons (by omega)]; rfl
  obtain ⟨t, ht⟩ : ∃ t, t = s.data.toList.drop (at_ + 1) := ⟨_, rfl⟩
  have htl : t.length = s.size - (at_ + 1) := by rw [ht, List.length_drop, hdl]
  have h4l : (t.drop 4).length = s.size - (at_ + 5) := by rw [List.length_drop, htl]; omega
  have hd4 : t.drop 4 = s.data.toList.drop (at_ + 5) := by rw [ht, List.drop_drop]
  rw [hcons, ← ht, rdB]
  by_cases h1 : s[at_] = 1
  · rw [if_pos h1]
    have hk : (s[at_]).toNat = 1 := by rw [h1]; rfl
    by_cases h9 : s.size < at_ + 9
    · refine ⟨fun _ => read_nonum s at_ R w hs hl hk h9, fun x t' hx => ?_⟩
      have := (rdN_some hx).1
      omega
    · refine ⟨fun hn => ?_, fun x t' hx => ?_⟩
      · unfold rdN at hn
        rw [if_neg (by omega)] at hn; cases hn
      · obtain ⟨_, rfl, rfl⟩ := rdN_some hx
        have hg := read_num s at_ R w hs hl hk (by omega)
        rw [← ht] at hg
        rw [show s.size - (t.drop 8).length = at_ + 9 by rw [List.length_drop, htl]; omega]
        exact hg
  rw [if_neg h1]
  by_cases h2 : s[at_] = 2
  · rw [if_pos h2]
    have hk : (s[at_]).toNat = 2 := by rw [h2]; rfl
    by_cases hN : beN (t.take 4) ≤ 1048576 ∧ beN (t.take 4) + at_ + 5 ≤ s.size
    · refine ⟨fun hn => ?_, fun x t' hx => ?_⟩
      · unfold rdT at hn
        rw [if_neg (by omega), if_neg (by omega), if_neg (by omega)] at hn; cases hn
      · obtain ⟨_, _, _, rfl, rfl⟩ := rdT_some hx
        have hg := read_text s at_ R w hs hl hk (by rw [← ht]; exact hN.1) (by rw [← ht]; exact hN.2)
        rw [← ht] at hg
        rw [show s.size - ((t.drop 4).drop (beN (t.take 4))).length = at_ + 5 + beN (t.take 4) by rw [List.length_drop, h4l]; omega]
        have e : (⟨((t.drop 4).take (beN (t.take 4))).toArray⟩ : ByteArray) = s.extract (at_ + 5) (at_ + 5 + beN (t.take 4)) := by
          refine text_ext ?_
          rw [ByteArray.toList_eq, ByteArray.toList_eq, ByteArray.data_extract, Array.toList_extract, List.extract_eq_take_drop, hd4]
          simp
        rw [e]
        exact hg
    · refine ⟨fun _ => read_notext s at_ R w hs hl hk (by rw [← ht]; omega), fun x t' hx => ?_⟩
      obtain ⟨_, q1, q2, _, _⟩ := rdT_some hx
      exact absurd ⟨q1, by omega⟩ hN
  rw [if_neg h2]
  by_cases h3 : s[at_] = 3
  · rw [if_pos h3]
    have hk : (s[at_]).toNat = 3 := by rw [h3]; rfl
    rcases hsub with ⟨rfl, hR1⟩ | ⟨f, rfl, hR1, hsuf, ih⟩
    · exact ⟨fun _ => read_nolist s at_ R w hs hl hk (.inr hR1), fun x t' hx => by cases hx⟩
    rw [Option.bind_some]
    by_cases hN : 65536 < beN (t.take 4)
    · refine ⟨fun _ => read_nolist s at_ R w hs hl hk (.inl (by rw [← ht]; exact hN)), fun x t' hx => ?_⟩
      have := (rdL_some hx).2.1
      omega
    have hgo := read_list s at_ R w hs hl hk (by rw [← ht]; omega) hR1 hR f hsuf ih
    rw [← ht, ← hd4] at hgo
    have he : rdL f t = (rds f (beN (t.take 4)) (t.drop 4)).map fun p => (.mk 3 0 ⟨#[]⟩ p.1, p.2) := by
      unfold rdL; rw [if_neg (by omega), if_neg hN]
    rw [he]
    refine ⟨fun hn => ?_, fun x t' hx => ?_⟩
    · rw [Option.map_eq_none_iff] at hn
      exact hgo none hn
    · obtain ⟨⟨l2, t2⟩, hq, hx2⟩ := Option.map_eq_some_iff.1 hx
      simp only [Prod.mk.injEq] at hx2
      obtain ⟨rfl, rfl⟩ := hx2
      exact hgo (some (l2, t2)) hq
  · rw [if_neg h3]
    have hne : ∀ j : UInt8, s[at_] ≠ j → (s[at_]).toNat ≠ j.toNat := fun j h e => h (UInt8.toNat_inj.1 e)
    exact ⟨fun _ => read_nokind s at_ R w hs hl (hne 1 h1) (hne 2 h2) (hne 3 h3), fun x t' hx => by cases hx⟩
theorem ref_any (s : ByteArray) (hs : s.size ≤ 1099511627776) : ∀ R : Nat, R ≤ 100 → RefReads s (R : Int) (rd R) := by
  intro R
  induction R with
  | zero => intro _; exact ref_of s hs 0 (by decide) none (.inl ⟨rfl, by decide⟩)
  | succ R ih =>
    intro hR
    refine ref_of s hs _ (by omega) (some (rd R)) (.inr ⟨rd R, rfl, by omega, rd_suffix R, ?_⟩)
    rw [show ((R + 1 : Nat) : Int) - 1 = (R : Int) by omega]
    exact ih (by omega)

/-- GetWire: a wire; or none. -/
def RefGot (x : Wr) (w : World) (e : Ending) (w' : World) : Prop := ∃ A c, e = .returned (.agg #[.int .i64 x.k, .int .i64 x.n, .string x.s, .slice A x.l.length c, .bool true]) ∧ HL w' w.heap.size (.slice A x.l.length c) x.l ∧ w.grownBy w' none
def RefNone (w : World) (e : Ending) (w' : World) : Prop := e = .returned (.agg #[.int .i64 0, .int .i64 0, .string ⟨#[]⟩, .slice none 0 0, .bool false]) ∧ w.grownBy w' none
theorem start (s : ByteArray) : s.data.toList.drop 0 = s.data.toList := rfl
set_option maxHeartbeats 4000000 in
set_option maxRecDepth 100000 in
theorem refGet_none (s : ByteArray) (w : World) (hs : s.size ≤ 1099511627776) (h : get s.data.toList = none) : Calls Tryz.prog 20 #[.string s] w (RefNone w) := by
  have key : rd 6 s.data.toList = none ∨ ∃ x t, rd 6 s.data.toList = some (x, t) ∧ t ≠ [] := by
    unfold get at h
    cases hr : rd 6 s.data.toList with
    | none => exact .inl rfl
    | some p =>
      obtain ⟨x, t⟩ := p
      rw [hr] at h
      cases t with
      | nil => cases h
      | cons a t => exact .inr ⟨x, a :: t, rfl, by simp⟩
  have hR := ref_any s hs 6 (by decide) 0 (w.alloc (.cells #[.int .i64 0, .int .i64 0, .string ⟨#[]⟩, .slice none 0 0, .bool false] 62)) (Nat.zero_le _)
  rw [start] at hR
  clear h
  rcases key with h0 | ⟨x, t, h1, hne⟩
  · have Hc := Lib.hid (hR.1 h0)
    have tn : ((-1 : Int) == (s.size : Int)) = false := by simp
    have tm : ((-1 : Int) != (s.size : Int)) = true := by simp only [bne, tn]; rfl
    clear hR h0
    go_enter Tryz.func20, Tryz.ntmps20
    go_wp2_with fail
    refine Hc.out.mono ?_
    rintro e w2 ⟨rfl, g2⟩
    have Hg2 := Lib.hid (gb_none (gb_alloc (gb_refl w none) _) g2)
    have Hrow := Lib.hid (row_kept (heap_alloc_new w (.cells #[.int .i64 0, .int .i64 0, .string ⟨#[]⟩, .slice none 0 0, .bool false] 62)) g2)
    clear g2
    have hwl := (Array.getElem?_eq_some_iff.1 Hrow.out).1
    obtain ⟨⟨b0, b1, b2, b3, b4⟩, ⟨f0, f1, f2, f3, f4⟩, hbl⟩ := box5 Hrow.out
    go_wp2_with fail
    obtain ⟨⟨q0, q1, q2, q3, q4⟩, _, _⟩ := box5 ((Below.heap_alloc _ (.cells #[.int .i64 0, .int .i64 0, .string ⟨#[]⟩, .slice none 0 0, .int .i64 (-1)] 104) w.heap.size (by simp [World.setCell]; omega)).trans (set5_row Hrow.out (.int .i64 0) (.int .i64 0) (.string ⟨#[]⟩) (.slice none 0 0) (.bool false)))
    refine bodyPost_ret (v := .agg #[.int .i64 0, .int .i64 0, .string ⟨#[]⟩, .slice none 0 0, .bool false]) (by simp [results, Tryz.results20, go_sem, q0, q1, q2, q3, q4]) rfl ?_
    exact ⟨rfl, gb_alloc (gb_new5 (Nat.le_refl _) Hg2.out) _⟩
  · have Hc := Lib.hid (hR.2 x t h1)
    have hl := rd_len 6 _ x t h1
    have ht : t.length ≠ 0 := fun e => hne (List.eq_nil_of_length_eq_zero e)
    have e0 := data_len s
    obtain ⟨nx, hnx⟩ : ∃ nx : Nat, nx = s.size - t.length := ⟨_, rfl⟩
    rw [← hnx] at Hc
    have tn : ((nx : Int) == (s.size : Int)) = false := by simp; omega
    have tm : ((nx : Int) != (s.size : Int)) = true := by simp only [bne, tn]; rfl
    clear hR h1 hl ht e0 hnx hne
    go_enter Tryz.func20, Tryz.ntmps20
    go_wp2_with fail
    refine Hc.out.mono ?_
    rintro e w2 ⟨A, c, rfl, _, g2⟩
    have Hg2 := Lib.hid (gb_none (gb_alloc (gb_refl w none) _) g2)
    have Hrow := Lib.hid (row_kept (heap_alloc_new w (.cells #[.int .i64 0, .int .i64 0, .string ⟨#[]⟩, .slice none 0 0, .bool false] 62)) g2)
    clear g2
    have hwl := (Array.getElem?_eq_some_iff.1 Hrow.out).1
    obtain ⟨⟨b0, b1, b2, b3, b4⟩, ⟨f0, f1, f2, f3, f4⟩, hbl⟩ := box5 Hrow.out
    go_wp2_with fail
    obtain ⟨⟨q0, q1, q2, q3, q4⟩, _, _⟩ := box5 ((Below.heap_alloc _ (.cells #[.int .i64 x.k, .int .i64 x.n, .string x.s, .slice A x.l.length c, .int .i64 (nx : Int)] 104) w.heap.size (by simp [World.setCell]; omega)).trans (set5_row Hrow.out (.int .i64 0) (.int .i64 0) (.string ⟨#[]⟩) (.slice none 0 0) (.bool false)))
    refine bodyPost_ret (v := .agg #[.int .i64 0, .int .i64 0, .string ⟨#[]⟩, .slice none 0 0, .bool false]) (by simp [results, Tryz.results20, go_sem, q0, q1, q2, q3, q4]) rfl ?_
    exact ⟨rfl, gb_alloc (gb_new5 (Nat.le_refl _) Hg2.out) _⟩
set_option maxHeartbeats 4000000 in
set_option maxRecDepth 100000 in
theorem refGet_some (s : ByteArray) (w : World) (hs : s.size ≤ 1099511627776) (x : Wr) (h : get s.data.toList = some x) : Calls Tryz.prog 20 #[.string s] w (RefGot x w) := by
  have h1 : rd 6 s.data.toList = some (x, []) := by
    obtain ⟨e1, e2, e3⟩ := get_back h
    have := rd_enc 6 x e2 e3 []
    rw [List.append_nil, ← e1] at this
    exact this
  have hR := ref_any s hs 6 (by decide) 0 (w.alloc (.cells #[.int .i64 0, .int .i64 0, .string ⟨#[]⟩, .slice none 0 0, .bool false] 62)) (Nat.zero_le _)
  rw [start] at hR
  have hc := hR.2 x [] h1
  rw [List.length_nil, Nat.sub_zero] at hc
  have Hc := Lib.hid hc
  have tn : ((s.size : Int) == (s.size : Int)) = true := by simp
  have tm : ((s.size : Int) != (s.size : Int)) = false := by simp
  clear hR h1 h hc
  go_enter Tryz.func20, Tryz.ntmps20
  go_wp2_with fail
  refine Hc.out.mono ?_
  rintro e w2 ⟨A, c, rfl, hx, g2⟩
  have Hg2 := Lib.hid (gb_none (gb_alloc (gb_refl w none) _) g2)
  have Hrow := Lib.hid (row_kept (heap_alloc_new w (.cells #[.int .i64 0, .int .i64 0, .string ⟨#[]⟩, .slice none 0 0, .bool false] 62)) g2)
  have Hx := Lib.hid hx
  clear g2 hx
  have hwl := (Array.getElem?_eq_some_iff.1 Hrow.out).1
  obtain ⟨⟨b0, b1, b2, b3, b4⟩, ⟨f0, f1, f2, f3, f4⟩, hbl⟩ := box5 Hrow.out
  go_wp2_with fail
  obtain ⟨⟨q0, q1, q2, q3, q4⟩, _, _⟩ := box5 ((Below.heap_alloc _ (.cells #[.int .i64 x.k, .int .i64 x.n, .string x.s, .slice A x.l.length c, .int .i64 (s.size : Int)] 104) w.heap.size (by simp [World.setCell]; omega)).trans (set5_row Hrow.out (.int .i64 x.k) (.int .i64 x.n) (.string x.s) (.slice A x.l.length c) (.bool true)))
  refine bodyPost_ret (v := .agg #[.int .i64 x.k, .int .i64 x.n, .string x.s, .slice A x.l.length c, .bool true]) (by simp [results, Tryz.results20, go_sem, q0, q1, q2, q3, q4]) rfl ?_
  refine ⟨A, c, rfl, ?_, gb_alloc (gb_new5 (Nat.le_refl _) Hg2.out) _⟩
  refine HL.kept ?_ (gb_alloc (gb_refl _ _) _)
  refine (Hx.out.grown (gb_then (gb_then (gb_then (gb_then (gb_set1 _ w.heap.size _ _) (gb_set1 _ _ _ _)) (gb_set1 _ _ _ _)) (gb_set1 _ _ _ _)) (gb_set1 _ _ _ _)) (fun m e => ?_)).low (by simp)
  cases e; simp
end Go.Proofs.YthijiefopcnclaaGreatDoor
