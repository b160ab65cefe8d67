/- hmac.masked and the document's masked: a key of a block, xor a byte. slices.Concat of two slices of texts. hmac.Mac and the document's Mac: the sum by a key. hmac.Equal. -/
import Derived.Test.YtpcjbjpofcdjeaaGreatDoorShRq
import Derived.Lib.AppendZeros
import Derived.Deep.AppendSrc
set_option maxHeartbeats 4000000
set_option maxRecDepth 100000
namespace Go.Proofs.YtpcjbjpofcdjeaaGreatDoor.Hh
open Go.RowKit Wd Mm
def padK (k : List UInt8) : List UInt8 := k ++ List.replicate (64 - k.length) 0
def maskL (k : List UInt8) (m : UInt8) : List UInt8 := (padK k).map (fun x => x ^^^ m)
def maskB (k : ByteArray) (m : UInt8) : ByteArray := ⟨(maskL k.data.toList m).toArray⟩
theorem padK_len (k : List UInt8) (h : k.length ≤ 64) : (padK k).length = 64 := by simp [padK]; omega
theorem maskL_len (k : List UInt8) (m : UInt8) (h : k.length ≤ 64) : (maskL k m).length = 64 := by simp [maskL, padK_len k h]
theorem maskB_size (k : ByteArray) (m : UInt8) (h : k.size ≤ 64) : (maskB k m).size = 64 := by
 rw [← len_data]; unfold maskB; rw [ba]; exact maskL_len _ _ (by rw [len_data]; exact h)
theorem maskL_getD (k : List UInt8) (m : UInt8) (i : Nat) (h : k.length ≤ 64) (hi : i < 64) : (maskL k m).getD i 0 = (padK k).getD i 0 ^^^ m := by
 have hl := padK_len k h
 unfold maskL
 simp only [List.getD_eq_getElem?_getD, List.getElem?_map, List.getElem?_eq_getElem (show i < (padK k).length by omega), Option.map_some, Option.getD_some]
def zB : Array Value := ((List.replicate 64 (0 : UInt8)).map w8).toArray
theorem zB_run (W : World) : (zeroValue 159).run Tryz.prog W = .ok (.agg zB) W := by kernel_rfl
theorem zB_size : zB.size = 64 := by simp [zB]
theorem zB_at (i : Nat) (h : i < 64) : zB[i]? = some (w8 0) := by
 unfold zB
 rw [List.getElem?_toArray, List.getElem?_map, List.getElem?_replicate, if_pos h]; rfl
theorem put_pad (k : List UInt8) (n : Nat) (hn : k.length = n) (h : n ≤ 64) : put zB 0 (fun i => ((k.map w8).take n).getD i undef) n = ((padK k).map w8).toArray := by
 subst hn
 apply Array.ext_getElem?
 intro i
 rw [put_get, zB_size]
 by_cases hi : i < k.length
 ·rw [if_pos (by omega)]
  simp [padK, hi, List.getElem?_append_left]
 ·rw [if_neg (by omega)]
  by_cases h6 : i < 64
  ·rw [zB_at i h6, padK, List.getElem?_toArray, List.getElem?_map, List.getElem?_append_right (Nat.le_of_not_lt hi), List.getElem?_replicate, if_pos (by omega)]
   rfl
  ·rw [Array.getElem?_eq_none (by rw [zB_size]; omega), Array.getElem?_eq_none (by simp [padK_len k h]; omega)]
theorem put_mask (k : List UInt8) (m : UInt8) (h : k.length ≤ 64) : put ((padK k).map w8).toArray 0 (fun i => w8 ((maskL k m).getD i 0)) 64 = ((maskL k m).map w8).toArray :=
 put_all _ _ 64 _ (by simp [padK_len k h]) (by simp [maskL_len k m h]) fun i hi => by
  have hl := maskL_len k m h
  simp [hl, hi]
theorem row_text {w : World} {g : Nat} {t : TypeId} {l : List UInt8} {n : Nat} (h : Row w g t (l.map w8).toArray) (hn : l.length = n) (c : Nat) : (convert 54 9 (.slice (some ⟨g, 0, none⟩) n c)).run Tryz.prog w = .ok (.string ⟨l.toArray⟩) w := by
 subst hn
 exact run_convert_bytes_back (P := Tryz.prog) w 54 9 5 ⟨g, 0, none⟩ c l Tryz.underlying54 Tryz.underlying5 Tryz.underlying9 (row_bytes h)
theorem copy_pad {W : World} {g : Nat} {t : TypeId} (k : ByteArray) (hk : k.size ≤ 64) (h : Row W g t zB) :
  (∀ ty, (Builtin.copy_ #[54, 9] ty #[.slice (some ⟨g, 0, none⟩) 64 64, .string k]).run Tryz.prog W = .ok (.int .i64 (k.size : Int)) (W.setCells g 0 ((k.data.toList.map w8).take k.size))) ∧
  Row (W.setCells g 0 ((k.data.toList.map w8).take k.size)) g t ((padK k.data.toList).map w8).toArray ∧ W.grownBy (W.setCells g 0 ((k.data.toList.map w8).take k.size)) (some g) := by
 refine ⟨fun ty => run_copy_min W 54 9 ty 5 g 0 64 64 k.size k Tryz.underlying54 byte_one_size (Nat.min_eq_left hk) (fun j hj => by rw [Nat.zero_add, h.get, Array.getElem?_eq_getElem (by rw [zB_size]; omega)]; rfl) (fun j _ => h.free _), ?_, gb_setCells _ _ _ _⟩
 have h1 := row_setCells ((k.data.toList.map w8).take k.size) 0 _ _ h
 have hl : ((k.data.toList.map w8).take k.size).length = k.size := by simp
 rw [hl, put_pad k.data.toList k.size (len_data k) hk] at h1
 exact h1
attribute [local go_sem] xor8
theorem masked_any (k : ByteArray) (m : UInt8) (w : World) (hk : k.size ≤ 64) :
  Calls Tryz.prog 94 #[.string k, .int .u8 (m.toNat : Int)] w fun e w' => e = .returned (.string (maskB k m)) ∧ Gn w w' := by
 have hz := zB_run
 have hz2 := zB_size
 have hA : Tryz.prog.arrayLen 159 = 64 := by kernel_rfl
 obtain ⟨hcp, hr0, hg0⟩ := copy_pad k hk (Row.new w 159 zB)
 have Hr0 := qj hr0
 have Hg0 := qj hg0
 have HK := qj hk
 clear hr0 hg0 hk
 go_enter Tryz.func94, Tryz.ntmps94
 go_wp2_with fail
 clear hcp hz hz2
 have hl := (padK_len k.data.toList (by rw [len_data]; exact HK.out))
 have Hl := qj hl
 clear hl
 go_loopw [10] (fun i wr => ∃ r : Nat, r ≤ 64 ∧ i = .int .i64 r ∧ Row wr w.heap.size 159 (put ((padK k.data.toList).map w8).toArray 0 (fun i => w8 ((maskL k.data.toList m).getD i 0)) r) ∧ Gn w wr) (fun i _ => 64 - (intOf i).toNat)
 case atStart => exact ⟨0, Nat.zero_le _, rfl, Hr0.out, gb_new (gb_alloc (gb_refl _ _) _) Hg0.out (Nat.le_refl _)⟩
 case round =>
  obtain ⟨r, hr, rfl, hrow, hg⟩ := hrel
  by_cases hlt : r < 64
  ·have hdec : decide ((r : Int) < 64) = true := dcT
   have bk : (r : Int) < 64 := by omega
   obtain ⟨x, Hx⟩ : ∃ x, Hid (x = (padK k.data.toList).getD r 0) := ⟨_, rfl⟩
   have cx : wr.cell? ⟨w.heap.size, r, none⟩ = some (.int .u8 (x.toNat : Int)) := by
    refine hrow.at_ ?_
    rw [put_get, if_neg (by omega), Hx.out]
    have := Hl.out
    simp [this, hlt, w8]
   have hf : wr.frozen? ⟨w.heap.size, r, none⟩ = false := hrow.free _
   go_wp2_with fail
   go_roundw
   case rel =>
    refine ⟨r + 1, by omega, by go_num, ?_, gb_new hg (gb_set1 _ _ _ _) (Nat.le_refl _)⟩
    have e : w8 ((maskL k.data.toList m).getD r 0) = .int .u8 ((x ^^^ m).toNat : Int) := by
     rw [maskL_getD _ _ _ (by rw [len_data]; exact HK.out) hlt, Hx.out]; rfl
    have h := hrow.set_ r (w8 ((maskL k.data.toList m).getD r 0))
    rw [e] at h
    simp only [put, Nat.zero_add]
    rw [e]
    exact h
   case measure => simp [intOf]; omega
  ·have hr64 : r = 64 := by omega
   subst hr64
   have hdec : decide (((64 : Nat) : Int) < 64) = false := by decide
   rw [put_mask _ _ (by rw [len_data]; exact HK.out)] at hrow
   have hconv := row_text hrow (maskL_len _ _ (by rw [len_data]; exact HK.out)) 64
   clear hlt hr hrow
   go_wp2_with fail
   go_ret
   exact ⟨rfl, hg⟩
theorem z64_eq : madeB 64 = zB := madeB_eq 64
theorem refMasked_any (k : ByteArray) (m : UInt8) (w : World) (hk : k.size ≤ 64) :
  Calls Tryz.prog 97 #[.string k, .int .u8 (m.toNat : Int)] w fun e w' => e = .returned (.string (maskB k m)) ∧ Gn w w' := by
 have hmk : (Instr.makeSlice 54 (.int .i64 64) (.int .i64 64)).run Tryz.prog w = .ok (.slice (some ⟨w.heap.size, 0, none⟩) 64 64) (w.alloc (.cells zB 5)) := by
  rw [← z64_eq]; exact makeB_at 64 (by decide) w
 obtain ⟨hcp, hr0, hg0⟩ := copy_pad k hk (Row.new w 5 zB)
 have Hr0 := qj hr0
 have Hg0 := qj hg0
 have HK := qj hk
 clear hr0 hg0 hk
 go_enter Tryz.func97, Tryz.ntmps97
 go_wp2_with fail
 clear hcp hmk
 have hl := (padK_len k.data.toList (by rw [len_data]; exact HK.out))
 have Hl := qj hl
 clear hl
 go_loopw [6] (fun i wr => ∃ r : Nat, r ≤ 64 ∧ i = .int .i64 r ∧ Row wr w.heap.size 5 (put ((padK k.data.toList).map w8).toArray 0 (fun i => w8 ((maskL k.data.toList m).getD i 0)) r) ∧ Gn w wr) (fun i _ => 64 - (intOf i).toNat)
 case atStart => exact ⟨0, Nat.zero_le _, rfl, Hr0.out, gb_new (gb_alloc (gb_refl _ _) _) Hg0.out (Nat.le_refl _)⟩
 case round =>
  obtain ⟨r, hr, rfl, hrow, hg⟩ := hrel
  by_cases hlt : r < 64
  ·have hdec : decide ((r : Int) < 64) = true := dcT
   have bk : (r : Int) < 64 := by omega
   obtain ⟨x, Hx⟩ : ∃ x, Hid (x = (padK k.data.toList).getD r 0) := ⟨_, rfl⟩
   have cx : wr.cell? ⟨w.heap.size, r, none⟩ = some (.int .u8 (x.toNat : Int)) := by
    refine hrow.at_ ?_
    rw [put_get, if_neg (by omega), Hx.out]
    have := Hl.out
    simp [this, hlt, w8]
   have hf : wr.frozen? ⟨w.heap.size, r, none⟩ = false := hrow.free _
   go_wp2_with fail
   go_roundw
   case rel =>
    refine ⟨r + 1, by omega, by go_num, ?_, gb_new hg (gb_set1 _ _ _ _) (Nat.le_refl _)⟩
    have e : w8 ((maskL k.data.toList m).getD r 0) = .int .u8 ((x ^^^ m).toNat : Int) := by
     rw [maskL_getD _ _ _ (by rw [len_data]; exact HK.out) hlt, Hx.out]; rfl
    have h := hrow.set_ r (w8 ((maskL k.data.toList m).getD r 0))
    rw [e] at h
    simp only [put, Nat.zero_add]
    rw [e]
    exact h
   case measure => simp [intOf]; omega
  ·have hr64 : r = 64 := by omega
   subst hr64
   have hdec : decide (((64 : Nat) : Int) < 64) = false := by decide
   rw [put_mask _ _ (by rw [len_data]; exact HK.out)] at hrow
   have hconv := row_text hrow (maskL_len _ _ (by rw [len_data]; exact HK.out)) 64
   clear hlt hr hrow
   go_wp2_with fail
   go_ret
   exact ⟨rfl, hg⟩
end Go.Proofs.YtpcjbjpofcdjeaaGreatDoor.Hh
namespace Go.Proofs.YtpcjbjpofcdjeaaGreatDoor.Hh
open Go.RowKit Wd Mm
theorem text_info : (Tryz.prog.info? 9).map (fun i => (i.zero, i.size, i.bytes)) = some (some (.string ⟨#[]⟩), 1, 16) := by kernel_rfl
theorem zeros_size (c : Array Value) (hc : c.size = 1) (k : Nat) : (Builtin.zeroCells c k).size = k := by
 simp [Builtin.zeroCells, hc]
theorem grow_any (n : Nat) (w : World) (h0 : 0 < n) (hn : n ≤ 4096) :
  Calls Tryz.prog 129 #[.slice none 0 0, .int .i64 (n : Int)] w fun e w' => ∃ g cap cs, e = .returned (.slice (some ⟨g, 0, none⟩) 0 cap) ∧ w.heap.size ≤ g ∧ n ≤ cap ∧ cs.size = cap ∧ Row w' g 9 cs ∧ Gn w w' := by
 obtain ⟨i, hi, hz, hs, hb⟩ := info_parts text_info
 have t1 : decide ((n : Int) < 0) = false := dcF
 have t2 : decide ((0 : Int) < (n : Int)) = true := dcT
 have t3 : decide (0 < n) = true := decide_eq_true h0
 have happ : ∀ ty, (Builtin.append_ #[121, 3] ty #[.slice none 0 0, .int .i64 (n : Int)]).run Tryz.prog w = _ := fun ty => Lib.run_append_nil_zeros (P := Tryz.prog) w 121 3 ty 9 i (.string ⟨#[]⟩) .i64 .i64 Tryz.underlying121 Tryz.underlying3 hi hz n h0 (by omega) (by omega) (by rw [hb]; omega)
 have hge := grownCap_ge w n 0 9
 obtain ⟨cap, hcap⟩ : ∃ cap, Hid (cap = grownCap w n 0 9) := ⟨_, rfl⟩
 rw [← hcap.out] at happ hge
 have Happ := qj happ
 clear happ hi hz hs hb
 go_enter Tryz.func129, Tryz.ntmps129
 go_wp2_with (at_builtin; refine Lib.wpList_append_run _ rfl (.tmp 20) (.tmp 21) 121 3 rfl _ _ rfl rfl _ _ (Happ.out _) ?_)
 go_ret
 refine ⟨_, cap, _, rfl, Nat.le_refl _, hge, ?_, Row.new w.drew _ _, gb_alloc (gb_drew (gb_refl _ _)) _⟩
 rw [Array.size_append, zeros_size _ rfl, zeros_size _ rfl]; omega
def tot (n1 n2 k : Nat) : Nat := if k = 0 then 0 else if k = 1 then n1 else n1 + n2
def lst (s1 s2 : List ByteArray) (k : Nat) : List ByteArray := if k = 0 then [] else if k = 1 then s1 else s1 ++ s2
theorem lst_len (n1 n2 : Nat) (s1 s2 : List ByteArray) (h1 : s1.length = n1) (h2 : s2.length = n2) (k : Nat) : (lst s1 s2 k).length = tot n1 n2 k := by
 unfold lst tot
 split
 ·rfl
 ·split
  ·exact h1
  ·rw [List.length_append, h1, h2]
theorem tot_le (n1 n2 k : Nat) : tot n1 n2 k ≤ n1 + n2 := by unfold tot; split <;> (try split) <;> omega
theorem src_of {w : World} {A : Option Addr} {n c : Nat} {ss : List ByteArray} (h : Strs w A n ss) (h0 : n = 0 → A = none) : Src Tryz.prog 1 121 (.slice A n c) n (ss.map Value.string) w := by
 by_cases hn : n = 0
 ·subst hn
  rw [h0 rfl]
  have e : ss = [] := List.eq_nil_of_length_eq_zero h.1
  subst e
  exact Src.ofNil w Tryz.underlying121 c
 ·obtain ⟨g, o, rfl, hl, hc⟩ := h.2 (by omega)
  refine Src.ofSlice w Tryz.underlying121 ⟨g, o, none⟩ n c _ (by simp [h.1]) (fun j u hu => ?_) (fun u hu => ?_)
  ·have hadd : (⟨g, o, none⟩ : Addr).add j = ⟨g, o + j, none⟩ := by unfold Addr.add; split <;> simp_all
   have hj : j < ss.length := by
    rcases Nat.lt_or_ge j ss.length with h' | h'
    ·exact h'
    ·rw [List.getElem?_eq_none (by simpa using h')] at hu; cases hu
   rw [hadd, hc j (by rw [← h.1]; exact hj), ← hu]
   simp [hj]
  ·obtain ⟨x, _, rfl⟩ := List.mem_map.1 hu; rfl
theorem append_strs {w : World} {A : Option Addr} {n c g T cap : Nat} {ss : List ByteArray} {cs : Array Value} (h : Strs w A n ss) (h0 : n = 0 → A = none) (hr : Row w g 9 cs) (hs : cs.size = cap) (hroom : T + n ≤ cap) (ty : TypeId) :
  (Builtin.append_ #[121, 121] ty #[.slice (some ⟨g, 0, none⟩) T cap, .slice A n c]).run Tryz.prog w = .ok (.slice (some ⟨g, 0, none⟩) (T + n) cap) (w.setCells g T (ss.map Value.string)) := by
 obtain ⟨i, hi, _, hz1, _⟩ := info_parts text_info
 have hsrc := src_of (c := c) h h0
 have hl : (ss.map Value.string).length = n := by rw [List.length_map, h.1]
 have hq := run_append_room_src (P := Tryz.prog) w 121 121 ty 9 i Tryz.underlying121 hi g 0 T cap (.slice A n c) n (ss.map Value.string) (by rw [hz1]; exact hsrc) hroom
  (fun j hj => by rw [hz1, Nat.mul_one, Nat.zero_add, hr.get, Array.getElem?_eq_getElem (by omega)]; rfl) (fun j _ => hr.free _)
 rw [hz1, Nat.mul_one, Nat.zero_add] at hq
 exact hq
theorem concat_any (g0 : Nat) (A1 A2 : Option Addr) (n1 c1 n2 c2 : Nat) (s1 s2 : List ByteArray) (w : World) (h1 : w.cell? ⟨g0, 0, none⟩ = some (.slice A1 n1 c1)) (h2 : w.cell? ⟨g0, 1, none⟩ = some (.slice A2 n2 c2)) (hg0 : g0 < w.heap.size)
  (hs1 : Strs w A1 n1 s1) (hs2 : Strs w A2 n2 s2) (hn1 : 0 < n1) (hn : n1 + n2 ≤ 1000) (h0 : n2 = 0 → A2 = none) :
  Calls Tryz.prog 93 #[.slice (some ⟨g0, 0, none⟩) 2 2] w fun e w' => ∃ g c, e = .returned (.slice (some ⟨g, 0, none⟩) (n1 + n2) c) ∧ Strs w' (some ⟨g, 0, none⟩) (n1 + n2) (s1 ++ s2) ∧ Gn w w' := by
 have Hall : Hid (∀ k, k < 2 → ∃ A n c ss, w.cell? ⟨g0, k, none⟩ = some (.slice A n c) ∧ Strs w A n ss ∧ (n = 0 → A = none) ∧ tot n1 n2 (k + 1) = tot n1 n2 k + n ∧ lst s1 s2 (k + 1) = lst s1 s2 k ++ ss) := by
  intro k hk
  have e : k = 0 ∨ k = 1 := by omega
  rcases e with rfl | rfl
  ·exact ⟨A1, n1, c1, s1, h1, hs1, fun h => by omega, by simp [tot], by simp [lst]⟩
  ·exact ⟨A2, n2, c2, s2, h2, hs2, h0, by simp [tot], by simp [lst]⟩
 have Hlen := qj (lst_len n1 n2 s1 s2 hs1.1 hs2.1)
 have Hle := qj (tot_le n1 n2)
 clear h1 h2 hs1 hs2 h0
 go_enter Tryz.func93, Tryz.ntmps93
 go_wp2_with fail
 go_loopw [11, 3] (fun i s wr => ∃ k : Nat, k ≤ 2 ∧ i = .int .i64 k ∧ s = .int .i64 (tot n1 n2 k : Nat) ∧ w = wr) (fun i _ _ => 2 - (intOf i).toNat)
 case atStart => exact ⟨0, by omega, rfl, rfl, rfl⟩
 case round =>
  obtain ⟨k, hk, rfl, rfl, rfl⟩ := hrel
  by_cases hlt : k < 2
  ·have d1 : decide ((k : Int) < 2) = true := dcT
   have bk : (k : Int) < 2 := by omega
   obtain ⟨A, n, c, ss, hc, _, _, ht, _⟩ := Hall.out k hlt
   have hle1 := Hle.out (k + 1)
   obtain ⟨T, HT⟩ : ∃ T, Hid (T = tot n1 n2 k) := ⟨_, rfl⟩
   have Ht := qj ht
   rw [← HT.out]
   have hTn : T + n ≤ 1000 := by rw [HT.out, ← ht]; omega
   have d2 : decide ((T : Int) + (n : Int) < 0) = false := dcF
   clear ht hle1
   go_wp2_with fail
   go_roundw
   case rel => exact ⟨k + 1, by omega, by go_num, by rw [Ht.out, ← HT.out]; go_num, by first | exact trivial | rfl⟩
   case measure => simp [intOf]; omega
  ·have hk2 : k = 2 := by omega
   subst hk2
   have d1 : decide (((2 : Nat) : Int) < 2) = false := by decide
   obtain ⟨N, HN⟩ : ∃ N : Nat, Hid (N = tot n1 n2 2) := ⟨_, rfl⟩
   have hN : N = n1 + n2 := by rw [HN.out]; rfl
   have hN0 : 0 < N := by omega
   have hN1 : N ≤ 1000 := by omega
   have HN2 := qj hN
   rw [← HN.out]
   clear hN hlt hk
   go_wp2_with fail
   refine (grow_any N _ hN0 (by omega)).mono ?_
   rintro e w1 ⟨g, cap, cs0, rfl, hgg, hcap, hcs0, r0, g1⟩
   have Hcap := qj hcap
   have Hgg := qj hgg
   clear hcap hgg
   go_wp2_with fail
   go_loopw [27, 6] (fun i v wr => ∃ (k : Nat) (cs : Array Value), k ≤ 2 ∧ i = .int .i64 k ∧ v = .slice (some ⟨g, 0, none⟩) (tot n1 n2 k) cap ∧ cs.size = cap ∧ Row wr g 9 cs ∧ (∀ r, r < tot n1 n2 k → cs[r]? = some (.string ((lst s1 s2 k).getD r ByteArray.empty))) ∧ Gn w wr) (fun i _ _ => 2 - (intOf i).toNat)
   case atStart => exact ⟨0, cs0, by omega, rfl, rfl, hcs0, r0, fun r hr => absurd hr (by simp [tot]), g1⟩
   case round =>
    clear r0 g1 hcs0
    obtain ⟨k, cs, hk, rfl, rfl, hcs, hr, hcells, hg⟩ := hrel
    by_cases hlt : k < 2
    ·have d1 : decide ((k : Int) < 2) = true := dcT
     have bk : (k : Int) < 2 := by omega
     obtain ⟨A, n, c, ss, hc, hs, h0, ht, hl⟩ := Hall.out k hlt
     have hle1 := Hle.out (k + 1)
     have hc2 : wr.cell? ⟨g0, k, none⟩ = some (.slice A n c) := by
      rw [World.cell?_of_block (w := w) (a := ⟨g0, k, none⟩) (hg.block g0 hg0 (by simp))]; exact hc
     have hs2 := hs.keep hg
     obtain ⟨T, HT⟩ : ∃ T, Hid (T = tot n1 n2 k) := ⟨_, rfl⟩
     have hlk := Hlen.out k
     rw [← HT.out] at hlk
     have hTn : T + n ≤ cap := by have := Hcap.out; have := HN2.out; rw [HT.out, ← ht]; omega
     have Happ := qj (append_strs (c := c) hs2 h0 hr hcs hTn)
     have hnew := row_setCells (ss.map Value.string) T _ _ hr
     have hgn := gb_setCells g (ss.map Value.string) T wr
     have hsl : (ss.map Value.string).length = n := by rw [List.length_map, hs.1]
     rw [hsl] at hnew
     have Hcells := qj hcells
     have Ht := qj ht
     have Hl := qj hl
     have Hlk := qj hlk
     have Hsl := qj hs.1
     have Hcs := qj hcs
     have Hnew := qj hnew
     rw [← HT.out]
     clear ht hl hlk hc hs hs2 hr hcells hle1 hsl hcs hnew h0
     go_wp2_with (at_builtin; refine Lib.wpList_append_run _ rfl (.tmp 31) (.tmp 32) 121 121 rfl _ _ rfl rfl _ _ (Happ.out _) ?_)
     go_roundw
     case rel =>
      refine ⟨k + 1, put cs T (fun i => (ss.map Value.string).getD i undef) n, by omega, by go_num, by rw [Ht.out, ← HT.out], by rw [put_size]; exact Hcs.out, Hnew.out, fun r hr' => ?_, gb_new hg hgn Hgg.out⟩
      rw [Ht.out, ← HT.out] at hr'
      rw [put_get, Hl.out]
      by_cases h1 : T ≤ r
      ·rw [if_pos (by have := Hcs.out; omega)]
       have : r - T < ss.length := by have := Hsl.out; omega
       simp only [List.getD_eq_getElem?_getD, List.getElem?_map, List.getElem?_append_right (show (lst s1 s2 k).length ≤ r by have := Hlk.out; omega), Hlk.out, List.getElem?_eq_getElem this, Option.map_some, Option.getD_some]
      ·rw [if_neg (by omega), Hcells.out r (by rw [← HT.out]; omega)]
       simp only [List.getD_eq_getElem?_getD, List.getElem?_append_left (show r < (lst s1 s2 k).length by have := Hlk.out; omega)]
     case measure => simp [intOf]; omega
    ·have hk2 : k = 2 := by omega
     subst hk2
     have d1 : decide (((2 : Nat) : Int) < 2) = false := by decide
     rw [← HN.out] at hcells ⊢
     have Hcells := qj hcells
     clear hcells hlt hk
     go_wp2_with fail
     go_ret
     refine ⟨g, cap, by rw [HN2.out]; rfl, ⟨by have := Hlen.out 2; rw [← HN.out, HN2.out] at this; exact this, fun _ => ⟨g, 0, rfl, hr.lt, fun r hr' => ?_⟩⟩, hg⟩
     rw [Nat.zero_add]
     exact hr.at_ (Hcells.out r (by rw [HN2.out]; exact hr'))
end Go.Proofs.YtpcjbjpofcdjeaaGreatDoor.Hh
namespace Go.Proofs.YtpcjbjpofcdjeaaGreatDoor.Hh
open Go.RowKit Wd Mm
def hkey (k : ByteArray) : ByteArray := if 64 < k.size then sumB k else k
theorem hkey_size (k : ByteArray) : (hkey k).size ≤ 64 := by
 unfold hkey
 split
 ·rw [sumB_size]; decide
 ·omega
def macB (k s : ByteArray) : ByteArray := sumB (maskB (hkey k) 92 ++ sumB (maskB (hkey k) 54 ++ s))
theorem macB_size (k s : ByteArray) : (macB k s).size = 32 := sumB_size _
theorem ref_sum (s : ByteArray) (w : World) (hs : s.size ≤ 1099511627776) : Calls Tryz.prog 59 #[.string s] w fun e w' => e = .returned (.string (sumB s)) ∧ Gn w w' := refSum_any s w hs
theorem refMac_any (k s : ByteArray) (w : World) (hk : k.size ≤ 549755813888) (hs : s.size ≤ 549755813888) :
  Calls Tryz.prog 55 #[.string k, .string s] w fun e w' => e = .returned (.string (macB k s)) ∧ Gn w w' := by
 obtain ⟨K, HK⟩ : ∃ K : ByteArray, Hid (K = hkey k) := ⟨_, rfl⟩
 have hK : K.size ≤ 64 := by rw [HK.out]; exact hkey_size k
 obtain ⟨a, Ha⟩ : ∃ a : ByteArray, Hid (a = maskB K 92) := ⟨_, rfl⟩
 obtain ⟨b, Hb⟩ : ∃ b : ByteArray, Hid (b = maskB K 54) := ⟨_, rfl⟩
 have hsa : a.size ≤ 64 := by rw [Ha.out, maskB_size K 92 hK]; decide
 have hsb : b.size ≤ 64 := by rw [Hb.out, maskB_size K 54 hK]; decide
 obtain ⟨c, Hc⟩ : ∃ c : ByteArray, Hid (c = sumB (b ++ s)) := ⟨_, rfl⟩
 have hsc : c.size ≤ 32 := by rw [Hc.out, sumB_size]; exact Nat.le_refl _
 have Hfin : Hid (macB k s = sumB (a ++ c)) := by show _ = _; rw [Hc.out, Ha.out, Hb.out, HK.out]; rfl
 by_cases h64 : 64 < k.size
 ·have t1 : decide ((64 : Int) < (k.size : Int)) = true := dcT
  have HK2 : Hid (sumB k = K) := by show _ = _; rw [HK.out, hkey, if_pos h64]
  go_enter Tryz.func55, Tryz.ntmps55
  go_wp2_with fail
  refine (ref_sum k _ (by omega)).mono ?_
  rintro e w1 ⟨rfl, g1⟩
  rw [HK2.out]
  go_wp2_with fail
  refine (refMasked_any K 92 _ hK).mono ?_
  rintro e w2 ⟨rfl, g2⟩
  rw [← Ha.out]
  go_wp2_with fail
  refine (refMasked_any K 54 _ hK).mono ?_
  rintro e w3 ⟨rfl, g3⟩
  rw [← Hb.out]
  go_wp2_with fail
  refine (ref_sum _ _ (by rw [ByteArray.size_append]; omega)).mono ?_
  rintro e w4 ⟨rfl, g4⟩
  rw [← Hc.out]
  go_wp2_with fail
  refine (ref_sum _ _ (by rw [ByteArray.size_append]; omega)).mono ?_
  rintro e w5 ⟨rfl, g5⟩
  rw [← Hfin.out]
  go_wp2_with fail
  go_ret
  exact ⟨rfl, gb_none (gb_none (gb_none (gb_none g1 g2) g3) g4) g5⟩
 ·have t1 : decide ((64 : Int) < (k.size : Int)) = false := dcF
  have HK2 : Hid (k = K) := by show _ = _; rw [HK.out, hkey, if_neg h64]
  have hkk := HK2.out
  subst hkk
  go_enter Tryz.func55, Tryz.ntmps55
  go_wp2_with fail
  refine (refMasked_any k 92 _ hK).mono ?_
  rintro e w2 ⟨rfl, g2⟩
  rw [← Ha.out]
  go_wp2_with fail
  refine (refMasked_any k 54 _ hK).mono ?_
  rintro e w3 ⟨rfl, g3⟩
  rw [← Hb.out]
  go_wp2_with fail
  refine (ref_sum _ _ (by rw [ByteArray.size_append]; omega)).mono ?_
  rintro e w4 ⟨rfl, g4⟩
  rw [← Hc.out]
  go_wp2_with fail
  refine (ref_sum _ _ (by rw [ByteArray.size_append]; omega)).mono ?_
  rintro e w5 ⟨rfl, g5⟩
  rw [← Hfin.out]
  go_wp2_with fail
  go_ret
  exact ⟨rfl, gb_none (gb_none (gb_none g2 g3) g4) g5⟩
theorem catB_cons (a : ByteArray) (l : List ByteArray) (s : ByteArray) (h : catB l = s.data.toList) : catB ([a] ++ l) = (a ++ s).data.toList := by
 rw [catB_append, catB_one, h, ByteArray.data_append, Array.toList_append]
theorem parts_small (a : ByteArray) (l : List ByteArray) (n : Nat) (hl : l.length = n) (ha : a.size ≤ 64) (h : ∀ x ∈ l, x.size ≤ 549755813888) : ∀ i, i < 1 + n → (([a] ++ l).getD i ByteArray.empty).size ≤ 9223372036854775807 := fun i hi => by
 have hi' : i < ([a] ++ l).length := by simp; omega
 rw [List.getD_eq_getElem?_getD, List.getElem?_eq_getElem hi']
 have hm := List.getElem_mem hi'
 generalize ([a] ++ l)[i] = x at *
 simp only [Option.getD_some]
 rcases List.mem_append.1 hm with h1 | h1
 ·rw [List.mem_singleton.1 h1]; omega
 ·have := h x h1; omega
theorem mac_any (k s : ByteArray) (A : Option Addr) (n c : Nat) (ss : List ByteArray) (w : World) (hk : k.size ≤ 549755813888) (hs : Strs w A n ss) (hcat : catB ss = s.data.toList) (hn : n ≤ 900) (h0 : n = 0 → A = none) (hsm : ∀ x ∈ ss, x.size ≤ 549755813888) (hT : Tabs w) :
  Calls Tryz.prog 52 #[.string k, .slice A n c] w fun e w' => e = .returned (.string (macB k s)) ∧ Gn w w' := by
 obtain ⟨K, HK⟩ : ∃ K : ByteArray, Hid (K = hkey k) := ⟨_, rfl⟩
 have hK : K.size ≤ 64 := by rw [HK.out]; exact hkey_size k
 obtain ⟨a, Ha⟩ : ∃ a : ByteArray, Hid (a = maskB K 92) := ⟨_, rfl⟩
 obtain ⟨b, Hb⟩ : ∃ b : ByteArray, Hid (b = maskB K 54) := ⟨_, rfl⟩
 have hsa : a.size ≤ 64 := by rw [Ha.out, maskB_size K 92 hK]; decide
 have hsb : b.size ≤ 64 := by rw [Hb.out, maskB_size K 54 hK]; decide
 obtain ⟨d, Hd⟩ : ∃ c : ByteArray, Hid (c = sumB (b ++ s)) := ⟨_, rfl⟩
 have hsd : d.size ≤ 32 := by rw [Hd.out, sumB_size]; exact Nat.le_refl _
 have Hfin : Hid (macB k s = sumB (a ++ d)) := by show _ = _; rw [Hd.out, Ha.out, Hb.out, HK.out]; rfl
 have Hs := qj hs
 have Hcat := qj (catB_cons b ss s hcat)
 have Hsm := qj (parts_small b ss n hs.1 hsb hsm)
 have H0 := qj h0
 clear hs hcat hsm h0
 have main : ∀ (W : World), Gn w W → Hid (Calls Tryz.prog 94 #[.string K, .int .u8 54] W fun e w' => e = .returned (.string b) ∧ Gn W w') := fun W _ => by
  have := masked_any K 54 W hK
  rw [← Hb.out] at this
  exact this
 by_cases h64 : 64 < k.size
 ·have t1 : decide ((64 : Int) < (k.size : Int)) = true := dcT
  have HK2 : Hid (sumB k = K) := by show _ = _; rw [HK.out, hkey, if_pos h64]
  have hT1 := hT.keep (gb_alloc (gb_refl w none) (.cells #[.string k] 9)) (by simp)
  go_enter Tryz.func52, Tryz.ntmps52
  go_wp2_with fail
  refine (sum_any _ 1 1 [k] _ (by decide) (one_small _ (by omega)) (by exact strs_one _ _) (by exact hT1)).mono ?_
  rintro e w1 ⟨rfl, g1⟩
  rw [sum_text _ k (catB_one _), HK2.out]
  replace g1 := gb_none (gb_alloc (gb_refl w none) _) g1
  clear hT1
  go_wp2_with fail
  refine (main _ g1).out.mono ?_
  rintro e w2 ⟨rfl, g2⟩
  have g3 := gb_none g1 g2
  have hsz := g3.size
  have hcon := concat_any (w2.heap.size + 1) (some ⟨w2.heap.size, 0, none⟩) A 1 1 n c [b] ss ((w2.alloc (.cells #[.string b] 9)).alloc (.cells #[.slice (some ⟨w2.heap.size, 0, none⟩) 1 1, .slice A n c] 121))
   (cell_of_row _ _ 0 _ _ (0, 0) (heap_alloc2_new _ _ _)) (cell_of_row _ _ 1 _ _ (0, 0) (heap_alloc2_new _ _ _)) (by simp) ((strs_one _ _).keep (gb_alloc (gb_refl _ _) _)) (Hs.out.keep (gb_alloc (gb_alloc g3 _) _)) (by decide) (by omega) H0.out
  have Hcon := qj hcon
  clear hcon g1 g2
  go_wp2_with fail
  refine Hcon.out.mono ?_
  rintro e w3 ⟨g, c3, rfl, hs3, g4⟩
  have g5 := gb_none (gb_alloc (gb_alloc g3 _) _) g4
  have Hs3 := qj hs3
  clear hs3 Hcon g3 g4
  go_wp2_with fail
  refine (masked_any K 92 _ hK).mono ?_
  rintro e w4 ⟨rfl, g6⟩
  rw [← Ha.out]
  have g7 := gb_none g5 g6
  go_wp2_with fail
  refine (sum_any _ (1 + n) c3 ([b] ++ ss) _ (by omega) Hsm.out (by exact Hs3.out.keep g6) (by exact hT.keep g7 (by simp))).mono ?_
  rintro e w5 ⟨rfl, g8⟩
  rw [sum_text _ (b ++ s) Hcat.out, ← Hd.out]
  have g9 := gb_none g7 g8
  clear g5 g6 g7 g8
  go_wp2_with fail
  refine (sum_any _ 2 2 [a, d] _ (by decide) (two_small _ _ (by omega) (by omega)) (by exact strs_new2 _ _ _ _ rfl) (by exact hT.keep (gb_alloc g9 _) (by simp))).mono ?_
  rintro e w6 ⟨rfl, g10⟩
  rw [sum_text _ (a ++ d) (catB_two _ _), ← Hfin.out]
  go_wp2_with fail
  go_ret
  exact ⟨rfl, gb_none (gb_alloc g9 _) g10⟩
 ·have t1 : decide ((64 : Int) < (k.size : Int)) = false := dcF
  have HK2 : Hid (k = K) := by show _ = _; rw [HK.out, hkey, if_neg h64]
  have hkk := HK2.out
  subst hkk
  go_enter Tryz.func52, Tryz.ntmps52
  go_wp2_with fail
  refine (main _ (gb_refl _ _)).out.mono ?_
  rintro e w2 ⟨rfl, g3⟩
  have hsz := g3.size
  have hcon := concat_any (w2.heap.size + 1) (some ⟨w2.heap.size, 0, none⟩) A 1 1 n c [b] ss ((w2.alloc (.cells #[.string b] 9)).alloc (.cells #[.slice (some ⟨w2.heap.size, 0, none⟩) 1 1, .slice A n c] 121))
   (cell_of_row _ _ 0 _ _ (0, 0) (heap_alloc2_new _ _ _)) (cell_of_row _ _ 1 _ _ (0, 0) (heap_alloc2_new _ _ _)) (by simp) ((strs_one _ _).keep (gb_alloc (gb_refl _ _) _)) (Hs.out.keep (gb_alloc (gb_alloc g3 _) _)) (by decide) (by omega) H0.out
  have Hcon := qj hcon
  clear hcon
  go_wp2_with fail
  refine Hcon.out.mono ?_
  rintro e w3 ⟨g, c3, rfl, hs3, g4⟩
  have g5 := gb_none (gb_alloc (gb_alloc g3 _) _) g4
  have Hs3 := qj hs3
  clear hs3 Hcon g3 g4
  go_wp2_with fail
  refine (masked_any k 92 _ hK).mono ?_
  rintro e w4 ⟨rfl, g6⟩
  rw [← Ha.out]
  have g7 := gb_none g5 g6
  go_wp2_with fail
  refine (sum_any _ (1 + n) c3 ([b] ++ ss) _ (by omega) Hsm.out (by exact Hs3.out.keep g6) (by exact hT.keep g7 (by simp))).mono ?_
  rintro e w5 ⟨rfl, g8⟩
  rw [sum_text _ (b ++ s) Hcat.out, ← Hd.out]
  have g9 := gb_none g7 g8
  clear g5 g6 g7 g8
  go_wp2_with fail
  refine (sum_any _ 2 2 [a, d] _ (by decide) (two_small _ _ (by omega) (by omega)) (by exact strs_new2 _ _ _ _ rfl) (by exact hT.keep (gb_alloc g9 _) (by simp))).mono ?_
  rintro e w6 ⟨rfl, g10⟩
  rw [sum_text _ (a ++ d) (catB_two _ _), ← Hfin.out]
  go_wp2_with fail
  go_ret
  exact ⟨rfl, gb_none (gb_alloc g9 _) g10⟩
end Go.Proofs.YtpcjbjpofcdjeaaGreatDoor.Hh
namespace Go.Proofs.YtpcjbjpofcdjeaaGreatDoor.Hh
open Go.RowKit Wd Mm
theorem or8 (a b : UInt8) : bits .or .u8 (a.toNat : Int) (b.toNat : Int) = ((a ||| b).toNat : Int) := by
 rw [u8_or_nat _ _ (lt8 a) (lt8 b), UInt8.toNat_or]
theorem or8_zero (a b : UInt8) : a ||| b = 0 ↔ a = 0 ∧ b = 0 := UInt8.or_eq_zero_iff
theorem xor8_zero (a b : UInt8) : a ^^^ b = 0 ↔ a = b := UInt8.xor_eq_zero_iff
theorem take_more (l : List UInt8) (k : Nat) (h : k < l.length) : l.take (k + 1) = l.take k ++ [l.getD k 0] := by
 rw [List.take_succ_eq_append_getElem h, List.getD_eq_getElem?_getD, List.getElem?_eq_getElem h]; rfl
theorem take_like (a b : List UInt8) (k : Nat) (ha : k < a.length) (hb : k < b.length) : a.take (k + 1) = b.take (k + 1) ↔ a.take k = b.take k ∧ a.getD k 0 = b.getD k 0 := by
 rw [take_more a k ha, take_more b k hb]
 constructor
 ·intro h
  have := List.append_inj h (by simp; omega)
  exact ⟨this.1, by simpa using this.2⟩
 ·rintro ⟨h1, h2⟩
  rw [h1, h2]
theorem ext_bytes (a b : ByteArray) (h : a.data.toList = b.data.toList) : a = b := by
 cases a; cases b
 congr 1
 exact Array.ext' h
attribute [local go_sem] xor8 or8
theorem unlike_any (a b : ByteArray) (w : World) (hab : a.size = b.size) (hs : a.size ≤ 9223372036854775807) :
  Calls Tryz.prog 153 #[.string a, .string b] w fun e w' => ∃ x : UInt8, e = .returned (.int .u8 (x.toNat : Int)) ∧ (x = 0 ↔ a = b) ∧ Gn w w' := by
 have hb : a.size ≤ b.size := by omega
 have Hab := qj hab
 clear hab
 go_enter Tryz.func153, Tryz.ntmps153
 go_wp2_with fail
 go_loopw [9, 5] (fun i v wr => ∃ (k : Nat) (x : UInt8), k ≤ a.size ∧ i = .int .i64 k ∧ v = .int .u8 (x.toNat : Int) ∧ Hid (x = 0 ↔ a.data.toList.take k = b.data.toList.take k) ∧ Gn w wr) (fun i _ _ => a.size - (intOf i).toNat)
 case atStart => exact ⟨0, 0, Nat.zero_le _, rfl, rfl, by show _ ↔ _; simp, gb_refl _ _⟩
 case round =>
  obtain ⟨k, x, hk, rfl, rfl, HX, hg⟩ := hrel
  by_cases hlt : k < a.size
  ·have d1 : decide (k < a.size) = true := decide_eq_true hlt
   have d2 : decide ((k : Int) < (a.size : Int)) = true := dcT
   have bk : (k : Int) < (a.size : Int) := by omega
   have bk2 : (k : Int) < (b.size : Int) := by omega
   have hlb : k < b.size := by omega
   go_wp2_with fail
   go_quiet (fail)
   go_wp2_with fail
   go_roundw
   case rel =>
    refine ⟨k + 1, x ||| (a[k] ^^^ b[k]), by omega, by go_num, by rw [← UInt8.toNat_xor, or8], ?_, gb_drewN hg _⟩
    show _ ↔ _
    rw [or8_zero, xor8_zero, take_like _ _ _ (by rw [len_data]; exact hlt) (by rw [len_data]; exact hlb), HX.out, get_data a k hlt, get_data b k hlb]
   case measure => simp [intOf]; omega
  ·have hka : k = a.size := by omega
   subst hka
   have d1 : decide (a.size < a.size) = false := by simp
   have d2 : decide ((a.size : Int) < (a.size : Int)) = false := by simp
   go_wp2_with fail
   go_ret
   refine ⟨x, rfl, ?_, hg⟩
   rw [HX.out, List.take_of_length_le (by rw [len_data]; exact Nat.le_refl _), List.take_of_length_le (by rw [len_data, Hab.out]; exact Nat.le_refl _)]
   exact ⟨ext_bytes a b, fun h => by rw [h]⟩
def eqB (a b : ByteArray) : Bool := decide (a = b)
theorem eqB_self (a : ByteArray) : eqB a a = true := decide_eq_true rfl
theorem equal_any (a b : ByteArray) (w : World) (hs : a.size ≤ 9223372036854775807) :
  Calls Tryz.prog 124 #[.string a, .string b] w fun e w' => e = .returned (.bool (eqB a b)) ∧ Gn w w' := by
 by_cases hsz : a.size = b.size
 ·have t1 : ((a.size : Int) == (b.size : Int)) = true := by rw [hsz]; simp
  have t2 : (a.size == b.size) = true := by rw [hsz]; simp
  have Hsz := qj hsz
  clear hsz
  go_enter Tryz.func124, Tryz.ntmps124
  go_wp2_with fail
  refine (unlike_any a b _ Hsz.out hs).mono ?_
  rintro e w1 ⟨x, rfl, hx, g1⟩
  by_cases hx0 : x = 0
  ·have t3 : ((x.toNat : Int) == 0) = true := by rw [hx0]; rfl
   have t4 : (x.toNat == 0) = true := by rw [hx0]; rfl
   have He : Hid (eqB a b = true) := decide_eq_true (hx.1 hx0)
   clear hx hx0
   go_wp2_with fail
   go_ret
   exact ⟨by rw [He.out]; rfl, g1⟩
  ·have hn : x.toNat ≠ 0 := fun h => hx0 (UInt8.toNat_inj.1 h)
   have t3 : ((x.toNat : Int) == 0) = false := by rw [beq_eq_false_iff_ne]; omega
   have t4 : (x.toNat == 0) = false := by rw [beq_eq_false_iff_ne]; exact hn
   have He : Hid (eqB a b = false) := decide_eq_false (fun h => hx0 (hx.2 h))
   clear hx hx0 hn
   go_wp2_with fail
   go_ret
   exact ⟨by rw [He.out]; rfl, g1⟩
 ·have t1 : ((a.size : Int) == (b.size : Int)) = false := by rw [beq_eq_false_iff_ne]; omega
  have t2 : (a.size == b.size) = false := by rw [beq_eq_false_iff_ne]; exact hsz
  have He : Hid (eqB a b = false) := decide_eq_false (fun h => hsz (by rw [h]))
  clear hsz
  go_enter Tryz.func124, Tryz.ntmps124
  go_wp2_with fail
  go_ret
  exact ⟨by rw [He.out]; rfl, gb_refl _ _⟩
end Go.Proofs.YtpcjbjpofcdjeaaGreatDoor.Hh
