/-
  Proved: whatever values of its parameters' types it is called with, deaddroplaw3.HmacKeys returns true, and each argument reads behind the call as it read before; the two tables of package sha being what the program's own text lays (the card ties them).
  Conditions: none but those of the card itself.
-/
import Derived.Test.YtalobkggpdniaaaDoorCards
import Derived.Test.YtalobkggpdniaaaDoorTie
import Derived.WalkKit
import Derived.ProofKit
import Derived.OpenShut
import Derived.ShutString
import Derived.Below
import Derived.Deep.DeepHandedRow
import Derived.Lib.LaidTab
import Derived.LaidSub
import Derived.Test.YtalobkggpdniaaaDoorHAwake
import Derived.IntWalk
import Derived.Outline
namespace Go.Proofs.YtalobkggpdniaaaDoor.hmacKeys
open Go.ChangeShapes Go.WideShapes Go.ChangeAt Go.RowKit
open Go.ChangeMaps (open_string shut_string)
open Go.Proofs.YtalobkggpdniaaaDoor.Wd Go.Proofs.YtalobkggpdniaaaDoor.Mm
set_option linter.unusedVariables false

theorem own : ownKnob Tryd.prog.godebug = none := by kernel_rfl


open Td
attribute [local go_sem] Td.upon_value Td.upon_skip Td.upon_enter Td.upon_row Td.look_tmp Td.look_const Td.look_func Td.look_global
theorem one_in (s : ByteArray) (h : s.size ≤ 549755813888) : ∀ x ∈ [s], x.size ≤ 549755813888 := by
  intro x hx
  rw [List.mem_singleton.1 hx]; exact h
theorem padK_more (l : List UInt8) (k : Nat) (hk : k ≤ l.length) (h6 : l.length ≤ 64) (h0 : ∀ i, k ≤ i → i < l.length → l.getD i 0 = 0) : padK l = padK (l.take k) := by
  apply List.ext_getElem?
  intro i
  have hl := padK_len l h6
  have hl2 := padK_len (l.take k) (by rw [List.length_take]; omega)
  by_cases hi : i < 64
  · unfold padK
    by_cases h1 : i < k
    · rw [List.getElem?_append_left (by omega), List.getElem?_append_left (by rw [List.length_take]; omega), List.getElem?_take, if_pos h1]
    · by_cases h2 : i < l.length
      · have := h0 i (by omega) h2
        rw [List.getD_eq_getElem?_getD, List.getElem?_eq_getElem h2] at this
        rw [List.getElem?_append_left h2, List.getElem?_append_right (by rw [List.length_take]; omega), List.getElem?_replicate, if_pos (by rw [List.length_take]; omega), List.getElem?_eq_getElem h2]
        exact congrArg some this
      · rw [List.getElem?_append_right (by omega), List.getElem?_append_right (by rw [List.length_take]; omega), List.getElem?_replicate, List.getElem?_replicate, if_pos (by omega), if_pos (by rw [List.length_take]; omega)]
  · rw [List.getElem?_eq_none (by omega), List.getElem?_eq_none (by omega)]
theorem mac_more (B C s : ByteArray) (k : Nat) (h6 : B.size ≤ 64) (hk : k ≤ B.size) (hC : C.data.toList = B.data.toList.take k) (h0 : ∀ i, k ≤ i → i < B.size → B.data.toList.getD i 0 = 0) : macB B s = macB C s := by
  have hc : C.size = k := by rw [← len_data, hC, List.length_take, len_data]; omega
  have e1 : hkey B = B := if_neg (by omega)
  have e2 : hkey C = C := if_neg (by omega)
  have e3 : ∀ m, maskB B m = maskB C m := fun m => by
    unfold maskB maskL
    rw [hC, padK_more B.data.toList k (by rw [len_data]; exact hk) (by rw [len_data]; exact h6) (by rw [len_data]; exact h0)]
  unfold macB
  rw [e1, e2, e3, e3]

set_option maxHeartbeats 40000000 in
set_option maxRecDepth 100000 in
theorem walk (a0 : Int) (a1 : ByteArray) (a2 : Int) (w0 : (Lit.int .u8 a0).wf = true) (w1 : a1.size ≤ maxLen) (w2 : (Lit.int .u8 a2).wf = true) (w : World) (hT : Tabs w) :
    Calls Tryd.prog 9 #[.int .u8 a0, .string a1, .int .u8 a2] w fun e w' => e = .returned (.bool true) ∧ Below w.heap.size w w' := by
  obtain ⟨hx0, hx1⟩ := u8_bound w0
  obtain ⟨hy0, hy1⟩ := u8_bound w2
  clear w0 w1 w2
  by_cases hA : 200 < a1.size
  · have t1 : decide ((200 : Int) < (a1.size : Int)) = true := decide_eq_true (by omega)
    go_enter Tryd.func9, Tryd.ntmps9
    go_wp2_with fail
    refine (awake3_any _ hT).mono ?_
    rintro e x1 ⟨rfl, g1⟩
    go_wp2_with fail
    go_ret
    exact ⟨rfl, below_of g1⟩
  · have t1 : decide ((200 : Int) < (a1.size : Int)) = false := decide_eq_false (by omega)
    obtain ⟨K, hK, hK1⟩ : ∃ K : Nat, a0 % 140 = (K : Int) ∧ K ≤ 139 := ⟨(a0 % 140).toNat, by omega, by omega⟩
    obtain ⟨Z, hZ, hZ1⟩ : ∃ Z : Nat, a2 % 9 = (Z : Int) ∧ Z ≤ 8 := ⟨(a2 % 9).toNat, by omega, by omega⟩
    obtain ⟨N, hN, hN1⟩ : ∃ N : Nat, (K : Int) + (Z : Int) = (N : Int) ∧ N = K + Z := ⟨K + Z, by omega, rfl⟩
    have hmk := makeB_at N (by omega)
    have hKN : K ≤ N := by omega
    have hN2 : N ≤ 147 := by omega
    have HN1 := Lib.hid hN1
    clear hN1
    go_enter Tryd.func9, Tryd.ntmps9
    go_wp2_with fail
    rw [hK, hZ]
    clear hmk hK hZ hN
    go_loopw [9] (fun i wr => ∃ (k : Nat) (l : List UInt8), k ≤ K ∧ i = .int .i64 k ∧ l.length = N ∧ Hid (∀ j, k ≤ j → j < N → l.getD j 0 = 0) ∧ Row wr w.heap.size 5 (l.map w8).toArray ∧ w.grownBy wr none) (fun i _ => K - (intOf i).toNat)
    case atStart => exact ⟨0, List.replicate N 0, Nat.zero_le _, rfl, by simp, fun j _ hj => by simp [hj], by rw [← madeB_eq]; exact Row.new _ _ _, gb_alloc (gb_refl _ _) _⟩
    case round =>
      obtain ⟨k, l, hk, rfl, hl2, Hz, hr, hg⟩ := hrel
      have hTW := hT.keep hg (by simp)
      have Hl2 := Lib.hid hl2
      clear hl2
      by_cases hlt : k < K
      · have d1 : decide (k < K) = true := decide_eq_true hlt
        have d2 : decide ((k : Int) < (K : Int)) = true := decide_eq_true (by omega)
        have hki : (k : Int) < (N : Int) := by omega
        obtain ⟨v0, hv0⟩ : ∃ v, wr.cell? ⟨w.heap.size, k, none⟩ = some v := ⟨_, hr.at_ (Array.getElem?_eq_getElem (by simp [Hl2.out]; omega))⟩
        have hf : wr.frozen? ⟨w.heap.size, k, none⟩ = false := hr.free _
        go_wp2_with fail
        go_roundw
        case rel =>
          have h := hr.set_ k (.int .u8 ((k : Int) + 1))
          rw [bytes_set l k ((k : Int) + 1) (by omega) (by omega)] at h
          refine ⟨k + 1, _, by omega, by go_num, ?_, ?_, h, gb_new hg (gb_set1 _ _ _ _) (Nat.le_refl _)⟩
          · rw [List.length_set]; exact Hl2.out
          · intro j hj hjN
            have := Hz.out j (by omega) hjN
            simp only [List.getD_eq_getElem?_getD, List.getElem?_set_ne (show k ≠ j by omega)] at this ⊢
            exact this
        case measure => simp [intOf]; omega
      · have hkk : k = K := by omega
        have d1 : decide (k < K) = false := decide_eq_false hlt
        have d2 : decide ((k : Int) < (K : Int)) = false := decide_eq_false (by omega)
        have Hkk := Lib.hid hkk
        clear hkk hlt
        obtain ⟨B, HB⟩ : ∃ B : ByteArray, Hid (B = ⟨l.toArray⟩) := ⟨_, rfl⟩
        obtain ⟨C, HC⟩ : ∃ C : ByteArray, Hid (C = ⟨(l.take K).toArray⟩) := ⟨_, rfl⟩
        have hBs : B.size ≤ 147 := by rw [HB.out, ← len_data, ba, Hl2.out]; exact hN2
        have hCs : C.size ≤ 147 := by rw [HC.out, ← len_data, ba, List.length_take]; omega
        have hstrB : ∀ W, wr.grownBy W none → (convert 26 9 (.slice (some ⟨w.heap.size, 0, none⟩) N N)).run Tryd.prog W = .ok (.string B) W := fun W hW => by
          rw [HB.out]; exact row_text (hr.kept hW (by simp)) Hl2.out N
        have hstrC : ∀ W, wr.grownBy W none → (convert 26 9 (.slice (some ⟨w.heap.size, 0, none⟩) K N)).run Tryd.prog W = .ok (.string C) W := fun W hW => by
          rw [HC.out]
          exact run_convert_bytes_back (P := Tryd.prog) W 26 9 5 ⟨w.heap.size, 0, none⟩ N (l.take K) Tryd.underlying26 Tryd.underlying5 Tryd.underlying9 (fun j hj => by
            have hadd : (⟨w.heap.size, 0, none⟩ : Addr).add j = ⟨w.heap.size, j, none⟩ := by unfold Addr.add; split <;> simp_all
            have hj2 : j < K := by rw [List.length_take] at hj; omega
            have hjl : j < l.length := by rw [Hl2.out]; omega
            rw [hadd]
            refine (hr.kept hW (by simp)).at_ ?_
            simp [hjl, w8]) |> fun h => by rw [List.length_take, Nat.min_eq_left (by rw [Hl2.out]; exact hKN)] at h; exact h
        obtain ⟨X, HX⟩ : ∃ S : ByteArray, Hid (macB B a1 = S) := ⟨_, rfl⟩
        obtain ⟨Y, HY⟩ : ∃ S : ByteArray, Hid (macB C a1 = S) := ⟨_, rfl⟩
        have Hxy : Hid (N ≤ 64 → X = Y) := fun h6 => by
          rw [← HX.out, ← HY.out]
          have hbsz : B.size = N := by rw [HB.out, ← len_data, ba, Hl2.out]
          refine mac_more B C a1 K (by omega) (by omega) (by rw [HB.out, HC.out, ba, ba]) (fun i h1 h2 => ?_)
          rw [HB.out, ba]
          exact Hz.out i (by rw [Hkk.out]; exact h1) (by omega)
        have HsB := Lib.hid hstrB
        have HsC := Lib.hid hstrC
        go_wp2_with fail
        apply wp_region_told (le := fun a b => a.grownBy b none) [isV _, isV _, isV _, strsV 1 [a1], isV _, isV _, isV _, isV _, isV _, isV _, strsV 1 [a1], isV _, isV _, isV _]
        case hn => rfl
        case hm => kernel_rfl
        case hB => kernel_rfl
        case ht => exact fun _ _ _ h k => gb_none h k
        case hw => exact gb_drew (gb_refl _ _)
        -- 0: law.go:33 move
        apply told_is
        · intro W f hW hE h0 K hK
          have e8 := h0 8 (by kernel_rfl)
          conv at e8 => rhs; whnf
          clear hE h0
          refine yes_of (want_free rfl) ?_
          go_simp; exact hK _ _ (gb_refl _ _) rfl
        -- 1: law.go:33 convert
        apply told_is
        · intro W f hW hE h0 K hK
          have e36 : f 36 = _ := hE 0 36 _ rfl (by kernel_rfl)
          clear hE h0
          refine yes_of (want_free rfl) ?_
          have hc := hstrB W hW
          go_simp; exact hK _ _ (gb_refl _ _) rfl
        -- 2: law.go:33 move
        apply told_is
        · intro W f hW hE h0 K hK
          have e1 := h0 1 (by kernel_rfl)
          conv at e1 => rhs; whnf
          clear hE h0
          refine yes_of (want_free rfl) ?_
          go_simp; exact hK _ _ (gb_refl _ _) rfl
        -- 3: law.go:33 buildSlice
        apply told_at strs_stays
        · intro W f hW hE h0 K hK
          have e38 : f 38 = _ := hE 0 38 _ rfl (by kernel_rfl)
          clear hE h0
          refine yes_of (want_free rfl) ?_
          go_simp
          exact hK _ _ (gb_alloc (gb_refl _ _) _) ⟨_, _, rfl, strs_new1 _ _ _ rfl⟩
        -- 4: law.go:33 call
        apply told_is
        · intro W f hW hE h0 K hK
          have e37 : f 37 = _ := hE 2 37 _ rfl (by kernel_rfl)
          have e39 := hE 0 39 _ rfl (by kernel_rfl)
          clear hE h0
          refine yes_of (want_free rfl) ?_
          obtain ⟨A, c, ev, hs⟩ := e39
          go_simp
          refine (mac_any B a1 _ 1 _ [a1] _ (by omega) hs (catB_one _) (by decide) (fun h => by cases h) (one_in a1 (by omega)) (hTW.keep hW (by simp))).mono ?_
          rintro e w1 ⟨rfl, g⟩
          rw [HX.out]
          exact ⟨_, rfl, hK _ _ g rfl⟩
        -- 5: law.go:33 move
        apply told_is
        · intro W f hW hE h0 K hK
          have e8 := h0 8 (by kernel_rfl)
          conv at e8 => rhs; whnf
          clear hE h0
          refine yes_of (want_free rfl) ?_
          go_simp; exact hK _ _ (gb_refl _ _) rfl
        -- 6: law.go:33 move
        apply told_is
        · intro W f hW hE h0 K hK
          have e7 := h0 7 (by kernel_rfl)
          conv at e7 => rhs; whnf
          clear hE h0
          refine yes_of (want_free rfl) ?_
          go_simp; exact hK _ _ (gb_refl _ _) rfl
        -- 7: law.go:33 slice
        apply told_is
        · intro W f hW hE h0 K hK
          have e41 : f 41 = _ := hE 1 41 _ rfl (by kernel_rfl)
          have e42 : f 42 = _ := hE 0 42 _ rfl (by kernel_rfl)
          clear hE h0
          refine yes_of (want_free rfl) ?_
          go_simp; exact hK _ _ (gb_refl _ _) rfl
        -- 8: law.go:33 convert
        apply told_is
        · intro W f hW hE h0 K hK
          have e43 : f 43 = _ := hE 0 43 _ rfl (by kernel_rfl)
          clear hE h0
          refine yes_of (want_free rfl) ?_
          have hc := hstrC W hW
          go_simp; exact hK _ _ (gb_refl _ _) rfl
        -- 9: law.go:33 move
        apply told_is
        · intro W f hW hE h0 K hK
          have e1 := h0 1 (by kernel_rfl)
          conv at e1 => rhs; whnf
          clear hE h0
          refine yes_of (want_free rfl) ?_
          go_simp; exact hK _ _ (gb_refl _ _) rfl
        -- 10: law.go:33 buildSlice
        apply told_at strs_stays
        · intro W f hW hE h0 K hK
          have e45 : f 45 = _ := hE 0 45 _ rfl (by kernel_rfl)
          clear hE h0
          refine yes_of (want_free rfl) ?_
          go_simp
          exact hK _ _ (gb_alloc (gb_refl _ _) _) ⟨_, _, rfl, strs_new1 _ _ _ rfl⟩
        -- 11: law.go:33 call
        apply told_is
        · intro W f hW hE h0 K hK
          have e44 : f 44 = _ := hE 2 44 _ rfl (by kernel_rfl)
          have e46 := hE 0 46 _ rfl (by kernel_rfl)
          clear hE h0
          refine yes_of (want_free rfl) ?_
          obtain ⟨A, c, ev, hs⟩ := e46
          go_simp
          refine (mac_any C a1 _ 1 _ [a1] _ (by omega) hs (catB_one _) (by decide) (fun h => by cases h) (one_in a1 (by omega)) (hTW.keep hW (by simp))).mono ?_
          rintro e w1 ⟨rfl, g⟩
          rw [HY.out]
          exact ⟨_, rfl, hK _ _ g rfl⟩
        -- 12: law.go:33 assign
        apply told_is
        · intro W f hW hE h0 K hK
          have e40 : f 40 = _ := hE 7 40 _ rfl (by kernel_rfl)
          clear hE h0
          refine yes_of (want_free rfl) ?_
          go_simp; exact hK _ _ (gb_refl _ _) rfl
        -- 13: law.go:33 assign
        apply told_is
        · intro W f hW hE h0 K hK
          have e47 : f 47 = _ := hE 1 47 _ rfl (by kernel_rfl)
          clear hE h0
          refine yes_of (want_free rfl) ?_
          go_simp; exact hK _ _ (gb_refl _ _) rfl
        intro W f hW hA
        simp only [lexIn, Act.put, List.setIfInBounds_toArray, List.set_cons_zero, List.set_cons_succ]
        have e10 : f 10 = _ := hA 1 (some 10) _ rfl
        rw [e10]
        have e11 : f 11 = _ := hA 0 (some 11) _ rfl
        rw [e11]
        clear hA
        have gW := hW
        have hcB := HsB.out W hW
        clear hstrB hstrC hr
        go_wp2_with fail
        refine (refMac_any B a1 _ (by omega) (by omega)).mono ?_
        rintro e x1 ⟨rfl, g1⟩
        rw [HX.out]
        replace g1 := gb_none gW g1
        have hcC := HsC.out x1 g1
        clear hcB
        go_wp2_with fail
        refine (refMac_any C a1 _ (by omega) (by omega)).mono ?_
        rintro e x2 ⟨rfl, g2⟩
        rw [HY.out]
        replace g2 := gb_none g1 g2
        clear g1 hcC
        by_cases h64 : 64 < N
        · have d3 : decide (64 < N) = true := decide_eq_true h64
          have d4 : decide ((64 : Int) < (N : Int)) = true := decide_eq_true (by omega)
          clear h64
          go_wp2_with fail
          refine (awake3_any _ (by exact hTW.keep g2 (by simp))).mono ?_
          rintro e x3 ⟨rfl, g3⟩
          go_wp2_with fail
          go_ret
          exact ⟨rfl, below_of (gb_none hg (gb_none g2 g3))⟩
        · have d3 : decide (64 < N) = false := decide_eq_false h64
          have d4 : decide ((64 : Int) < (N : Int)) = false := decide_eq_false (by omega)
          have hxy := Hxy.out (by omega)
          subst hxy
          clear h64
          go_wp2_with fail
          refine (awake3_any _ (by exact hTW.keep g2 (by simp))).mono ?_
          rintro e x3 ⟨rfl, g3⟩
          go_wp2_with fail
          go_ret
          exact ⟨rfl, below_of (gb_none hg (gb_none g2 g3))⟩

def zs1 : List Int := [1779033703, 3144134277, 1013904242, 2773480762, 1359893119, 2600822924, 528734635, 1541459225]
def zs2 : List Int := [1116352408, 1899447441, 3049323471, 3921009573, 961987163, 1508970993, 2453635748, 2870763221, 3624381080, 310598401, 607225278, 1426881987, 1925078388, 2162078206, 2614888103, 3248222580, 3835390401, 4022224774, 264347078, 604807628, 770255983, 1249150122, 1555081692, 1996064986, 2554220882, 2821834349, 2952996808, 3210313671, 3336571891, 3584528711, 113926993, 338241895, 666307205, 773529912, 1294757372, 1396182291, 1695183700, 1986661051, 2177026350, 2456956037, 2730485921, 2820302411, 3259730800, 3345764771, 3516065817, 3600352804, 4094571909, 275423344, 430227734, 506948616, 659060556, 883997877, 958139571, 1322822218, 1537002063, 1747873779, 1955562222, 2024104815, 2227730452, 2361852424, 2428436474, 2756734187, 3204031479, 3329325298]
theorem tabs {W : World} (h : laidMetH Tryd.prog Rows.hmacKeysRow.laid W) : Tabs W := by
  have h1 : Lib.TabIs Tryd.prog W "deaddrop/sha.opening" .u32 zs1 := Lib.tabIs_of_head (rest := [("deaddrop/sha.roundNumbers", Rows.laid_deaddrop_sha_roundNumbers)]) (g := 0) (t := 43) (e := 42) (n := 8) (by kernel_rfl) (by kernel_rfl) Tryd.underlying43 Tryd.underlying42 (by kernel_rfl) (by kernel_rfl) h
  have h2 : Lib.TabIs Tryd.prog W "deaddrop/sha.roundNumbers" .u32 zs2 := Lib.tabIs_of_head (rest := []) (g := 3) (t := 82) (e := 42) (n := 64) (by kernel_rfl) (by kernel_rfl) Tryd.underlying82 Tryd.underlying42 (by kernel_rfl) (by kernel_rfl) (laidMetH.filter (fun x => x.1 == "deaddrop/sha.roundNumbers") h)
  have e1 : ∀ i, i < 8 → zs1.getD i 0 = ((firstH.getD i 0).toNat : Int) := by decide
  have e2 : ∀ i, i < 64 → zs2.getD i 0 = ((konst.getD i 0).toNat : Int) := by decide +kernel
  have c1 : ∀ i, i < 8 → W.cell? ⟨0, i, none⟩ = some (w32 (firstH.getD i 0)) := fun i hi => by
    have := h1.cell (g := 0) (by kernel_rfl) i (by rw [show zs1.length = 8 from rfl]; exact hi)
    rw [e1 i hi] at this; exact this
  have c2 : ∀ i, i < 64 → W.cell? ⟨3, i, none⟩ = some (w32 (konst.getD i 0)) := fun i hi => by
    have := h2.cell (g := 3) (by kernel_rfl) i (by rw [show zs2.length = 64 from rfl]; exact hi)
    rw [e2 i hi] at this; exact this
  exact ⟨block_lt_of_cell (c2 0 (by decide)), c1, c2⟩

set_option maxRecDepth 100000 in
theorem contract (H : Type) (enc : TypeId × Value → H) (W : World) (base : Nat) (args : Array Value) (ds gs : List (DataW H)) (before : List MemPlace)
    (hval0 : ∀ (j : Nat) t v, Tryd.f9.params[j]? = some t → args[j]? = some v → Value.okWide Tryd.prog W .any base t v)
    (hW : DataW.Whole enc Tryd.prog Tryd.f9.params.toList Rows.hmacKeysSpec.vars false W args.toList ds gs before) (hL : laidMetH Tryd.prog Rows.hmacKeysRow.laid W) :
    Calls Tryd.prog 9 args W fun e W' => ∃ v, e = .returned v ∧ Rows.hmacKeysSpec.post enc Tryd.prog Tryd.f9 false true false false W args v W' := by
  have hval : ∀ (j : Nat) t v, Tryd.f9.params[j]? = some t → args[j]? = some v → Value.okWide Tryd.prog W .any base t v := hval0
  have hW' := hW
  obtain ⟨p, q, hA0, hV, rfl, hfz, hnd⟩ := hW
  have hA : DataW.TrodAll enc Tryd.prog W 0 (fun _ => true) true Tryd.f9.params.toList args.toList ds p := hA0
  rw [Tryd.params9] at hA hval
  obtain ⟨v0, vs0, d0, ds0, p0, q0, hargs, rfl, rfl, h0, r0⟩ := trodAll_cons hA
  obtain ⟨v1, vs1, d1, ds1, p1, q1, rfl, rfl, rfl, h1, r1⟩ := trodAll_cons r0
  obtain ⟨v2, vs2, d2, ds2, p2, q2, rfl, rfl, rfl, h2, r2⟩ := trodAll_cons r1
  obtain ⟨rfl, rfl, rfl⟩ := trodAll_nil r2
  obtain rfl : args = #[v0, v1, v2] := by cases args; simp_all
  obtain ⟨rfl, rfl⟩ := trodVars_none hV
  obtain ⟨a0, rfl, rfl, rfl, w0⟩ := open_int Tryd.underlying5 (hval 0 5 v0 rfl rfl) h0
  obtain ⟨a1, rfl, rfl, rfl, w1⟩ := open_string Tryd.underlying9 (hval 1 9 v1 rfl rfl) h1
  obtain ⟨a2, rfl, rfl, rfl, w2⟩ := open_int Tryd.underlying5 (hval 2 5 v2 rfl rfl) h2
  clear hA0 hval0
  simp only [List.append_nil] at hW'
  refine (walk a0 a1 a2 w0 w1 w2 W (tabs hL)).mono fun e W' ⟨he, hg⟩ => ?_
  subst he
  exact ⟨_, rfl, _, _, _, [], [], [], hW', (trodAll_cons_mk (shut_bool Tryd.underlying4 _) trodAll_mk0), (trodAll_cons_mk (shut_int Tryd.underlying5 w0) (trodAll_cons_mk (shut_string Tryd.underlying9 w1) (trodAll_cons_mk (shut_int Tryd.underlying5 w2) trodAll_mk0))), rfl, hg.frame _, fun h => by cases h⟩

def lay (cs : Array Value) : Obj → Obj
  | .cells _ t frozen => .cells cs t frozen
  | o => o
noncomputable def laidWorld (os : Os) : World :=
  { World.holding Tryd.prog os ⟨#[], #[], []⟩ with heap := ((World.holding Tryd.prog os ⟨#[], #[], []⟩).heap.modify 0 (lay #[.int .u32 1779033703, .int .u32 3144134277, .int .u32 1013904242, .int .u32 2773480762, .int .u32 1359893119, .int .u32 2600822924, .int .u32 528734635, .int .u32 1541459225])).modify 3 (lay #[.int .u32 1116352408, .int .u32 1899447441, .int .u32 3049323471, .int .u32 3921009573, .int .u32 961987163, .int .u32 1508970993, .int .u32 2453635748, .int .u32 2870763221, .int .u32 3624381080, .int .u32 310598401, .int .u32 607225278, .int .u32 1426881987, .int .u32 1925078388, .int .u32 2162078206, .int .u32 2614888103, .int .u32 3248222580, .int .u32 3835390401, .int .u32 4022224774, .int .u32 264347078, .int .u32 604807628, .int .u32 770255983, .int .u32 1249150122, .int .u32 1555081692, .int .u32 1996064986, .int .u32 2554220882, .int .u32 2821834349, .int .u32 2952996808, .int .u32 3210313671, .int .u32 3336571891, .int .u32 3584528711, .int .u32 113926993, .int .u32 338241895, .int .u32 666307205, .int .u32 773529912, .int .u32 1294757372, .int .u32 1396182291, .int .u32 1695183700, .int .u32 1986661051, .int .u32 2177026350, .int .u32 2456956037, .int .u32 2730485921, .int .u32 2820302411, .int .u32 3259730800, .int .u32 3345764771, .int .u32 3516065817, .int .u32 3600352804, .int .u32 4094571909, .int .u32 275423344, .int .u32 430227734, .int .u32 506948616, .int .u32 659060556, .int .u32 883997877, .int .u32 958139571, .int .u32 1322822218, .int .u32 1537002063, .int .u32 1747873779, .int .u32 1955562222, .int .u32 2024104815, .int .u32 2227730452, .int .u32 2361852424, .int .u32 2428436474, .int .u32 2756734187, .int .u32 3204031479, .int .u32 3329325298]) }
theorem laid_met (os : Os) : laidMet Tryd.prog Rows.hmacKeysRow.laid ((laidWorld os).forCall (fun _ _ => 0) ⟨#[], #[.int .u8 0, .string ByteArray.empty, .int .u8 0], []⟩).memory :=
  laidMet_of_run' 8 (by kernel_rfl) (by kernel_rfl)
theorem reads (os : Os) {H : Type} (enc : TypeId × Value → H) : ∃ places, DataW.whole enc Tryd.prog ((laidWorld os).forCall (fun _ _ => 0) ⟨#[], #[.int .u8 0, .string ByteArray.empty, .int .u8 0], []⟩).memory Tryd.f9.params.toList Rows.hmacKeysSpec.vars false (show Array Value from #[.int .u8 0, .string ByteArray.empty, .int .u8 0]).toList 8 = some ([.lit (.int .u8 0), .lit (.string []), .lit (.int .u8 0)], [], places) :=
  ⟨[], by kernel_rfl⟩

set_option maxRecDepth 100000 in
theorem lifted (os : Os) (started : os.Started) (H : Type) (enc : TypeId × Value → H) (F : Stop.Interp) :
    ReturnsInHanded {} Tryd.checked os 9 .any ((OpenSpec.ofChange Rows.hmacKeysSpec).preRow enc Tryd.prog Tryd.f9 Rows.hmacKeysRow.domain false Rows.hmacKeysRow.laid) (((OpenSpec.ofChange Rows.hmacKeysSpec).at F).post enc Tryd.prog Tryd.f9 false true false false) := by
  obtain ⟨places, hx⟩ := reads os enc
  refine returnsInHanded_of_row (C := Tryd.checked) (s := OpenSpec.ofChange Rows.hmacKeysSpec) own started (by kernel_rfl) Tryd.func9
    (witness_row_at (enc := enc) (C := Tryd.checked) false (laidWorld os) #[.int .u8 0, .string ByteArray.empty, .int .u8 0] rfl (by kernel_rfl) (by kernel_rfl) (by kernel_rfl)
      (OpenSpec.preRow_of_cond 8 hx (by kernel_rfl) (fun k hk => by cases hk) (by kernel_rfl) (laid_met os))) ?_
  intro W base args ds gs before hval hW _ _ _ hL _ _
  exact contract H enc W base args ds gs before hval hW hL

theorem said : Rows.HmacKeysSaid :=
  OpenClaim.holds_of_cond 9 Tryd.f9 rfl rfl rfl rfl rfl rfl rfl ⟨rfl, rfl, rfl, rfl, rfl⟩ rfl rfl rfl rfl rfl (by kernel_rfl) Tryd.func9 (by kernel_rfl)
    (of_decide_eq_true (by kernel_rfl)) (by unfold Func.isWrapper; first | (rw [if_pos (by decide +kernel)]; kernel_rfl) | (rw [if_neg (by decide +kernel)]; exact ⟨rfl, rfl⟩))
    (fun os started H enc _ F => by rw [OpenClaim.pre_eq_preRow]; exact lifted os started H enc F)

theorem plain (f : FuncId) (fn : Func) (hf : Tryd.pinned.checked.prog.funcNamed "deaddrop/deaddroplaw3.HmacKeys" = some f) (hfn : Tryd.pinned.checked.prog.funcs[f]? = some fn) :
    true = Tryd.pinned.checked.prog.looks [] ∧ ∀ (j : Nat) t, fn.params[j]? = some t → Tryd.pinned.checked.prog.wantsStandIn t = false := by
  obtain rfl : f = 9 := Option.some.inj ((show Tryd.prog.funcNamed "deaddrop/deaddroplaw3.HmacKeys" = some 9 by kernel_rfl).symm.trans hf) |>.symm
  obtain rfl : fn = Tryd.f9 := (Option.some.inj (Tryd.func9.symm.trans hfn)).symm
  refine ⟨by kernel_rfl, fun j t ht => ?_⟩
  have hall : (Tryd.f9.params.toList.all fun u => !Tryd.prog.wantsStandIn u) = true := by kernel_rfl
  have hm : t ∈ Tryd.f9.params.toList := by simpa using Array.mem_of_getElem? ht
  exact (show Tryd.prog.wantsStandIn t = false by simpa using List.all_eq_true.1 hall t hm)

theorem card : Rows.HmacKeysCardSaid :=
  Claim7.holds_tied_plain_at .later [] _ _ _ _ said (fun _ h => by cases h) (by kernel_rfl) (fun _ h => by cases h) hmacKeys_row_tie rfl ⟨rfl, rfl⟩ (by kernel_rfl) rfl plain (by kernel_rfl)
#print axioms card
end Go.Proofs.YtalobkggpdniaaaDoor.hmacKeys
