/-
  Proved: whatever values of its parameters' types it is called with, deaddroplaw6.BoxSizes returns true, and each argument reads behind the call as it read before; the two tables of package sha being what the program's own text lays (the card ties them).
  Conditions: none but those of the card itself.
-/
import Derived.Test.YthdealjnhgkoiaaDoorCards
import Derived.Test.YthdealjnhgkoiaaDoorTie
import Derived.WalkKit
import Derived.ProofKit
import Derived.OpenShut
import Derived.ShutString
import Derived.Below
import Derived.Deep.DeepHandedRow
import Derived.Lib.LaidTab
import Derived.LaidSub
import Derived.Stop.LaidTwo
import Derived.Test.YthdealjnhgkoiaaDoorBxAwake
import Derived.IntWalk
import Derived.Outline
import Derived.BigQuiet
namespace Go.Proofs.YthdealjnhgkoiaaDoor.boxSizes
open Go.ChangeShapes Go.WideShapes Go.ChangeAt Go.RowKit
open Go.ChangeMaps (open_string shut_string)
open Go.Proofs.YthdealjnhgkoiaaDoor.Wd Go.Proofs.YthdealjnhgkoiaaDoor.Mm
set_option linter.unusedVariables false

theorem own : ownKnob Tryd.prog.godebug = none := by kernel_rfl


open Bx

set_option maxHeartbeats 40000000 in
set_option maxRecDepth 100000 in
theorem walk (a0 : Int) (a1 : Int) (a2 : ByteArray) (w0 : (Lit.int .u8 a0).wf = true) (w1 : (Lit.int .u8 a1).wf = true) (w2 : a2.size ≤ maxLen) (w : World) (hT : Tabs w) (hB : Bx.BErrs w) :
    Calls Tryd.prog 6 #[.int .u8 a0, .int .u8 a1, .string a2] w fun e w' => e = .returned (.bool true) ∧ Below w.heap.size w w' := by
  obtain ⟨hx0, hx1⟩ := u8_bound w0
  obtain ⟨hy0, hy1⟩ := u8_bound w1
  clear w0 w1 w2
  by_cases c1 : 200 < a2.size
  · have t1 : decide ((200 : Int) < (a2.size : Int)) = true := decide_eq_true (by omega)
    clear c1
    go_enter Tryd.func6, Tryd.ntmps6
    go_wp2_with fail
    refine (awake6_any _ hT hB).mono ?_
    rintro e x1 ⟨rfl, g1⟩
    go_wp2_with fail
    go_ret
    exact ⟨rfl, below_of g1⟩
  · have t1 : decide ((200 : Int) < (a2.size : Int)) = false := decide_eq_false (by omega)
    have hp : a2.size ≤ 1048576 := by omega
    clear c1
    obtain ⟨K, hK, hK1⟩ : ∃ K : Nat, a0 % 100 = (K : Int) ∧ K < 100 := ⟨(a0 % 100).toNat, by omega, by omega⟩
    obtain ⟨O, hO, hO1⟩ : ∃ O : Nat, a1 % 24 = (O : Int) ∧ O < 24 := ⟨(a1 % 24).toNat, by omega, by omega⟩
    have hA := bytesB_size [] K
    have hC := bytesB_size [] O
    have hk := bytesB_size [] 64
    have hn := bytesB_size [] 12
    obtain ⟨A, HA⟩ : ∃ k : ByteArray, Hid ((⟨(Cc.bytesS [] K).toArray⟩ : ByteArray) = k) := ⟨_, rfl⟩
    obtain ⟨C, HC⟩ : ∃ k : ByteArray, Hid ((⟨(Cc.bytesS [] O).toArray⟩ : ByteArray) = k) := ⟨_, rfl⟩
    obtain ⟨k, HK⟩ : ∃ k : ByteArray, Hid ((⟨(Cc.bytesS [] 64).toArray⟩ : ByteArray) = k) := ⟨_, rfl⟩
    obtain ⟨o, HN⟩ : ∃ o : ByteArray, Hid ((⟨(Cc.bytesS [] 12).toArray⟩ : ByteArray) = o) := ⟨_, rfl⟩
    rw [HA.out] at hA
    rw [HC.out] at hC
    rw [HK.out] at hk
    rw [HN.out] at hn
    have hsz := sealB_size k o ⟨#[]⟩ a2 hk hn hp
    obtain ⟨S, HS⟩ : ∃ S : ByteArray, Hid (sealB A C ⟨#[]⟩ a2 = S) := ⟨_, rfl⟩
    obtain ⟨R, HR⟩ : ∃ R : ByteArray, Hid (sealB k o ⟨#[]⟩ a2 = R) := ⟨_, rfl⟩
    rw [HR.out] at hsz
    have hr9 : R.size ≤ 9223372036854775807 := by omega
    have HR9 := Lib.hid hr9
    obtain ⟨I, HI⟩ : ∃ I : Bool, Hid ((openB A C ⟨#[]⟩ R).isSome = I) := ⟨_, rfl⟩
    by_cases p1 : K = 64
    · by_cases p2 : O = 12
      · have hAk : A = k := by rw [← HA.out, ← HK.out, p1]
        have hCo : C = o := by rw [← HC.out, ← HN.out, p2]
        have hI : I = true := by rw [← HI.out, hAk, hCo, ← HR.out, open_seal _ _ _ _ hk hn hp]; rfl
        subst hI
        have hS1 := sealB_size A C ⟨#[]⟩ a2 (hA.trans p1) (hC.trans p2) hp
        rw [HS.out] at hS1
        have hSe : S.toList.isEmpty = false := by
          rw [ByteArray.toList_eq, List.isEmpty_eq_false_iff]
          intro h
          have := congrArg List.length h
          rw [Cc.len_data, List.length_nil] at this
          omega
        have t2 : ((K : Int) == 64) = true := by rw [p1]; rfl
        have t3 : ((O : Int) == 12) = true := by rw [p2]; rfl
        clear hA hC hk hn hsz hr9 hp hAk hCo hS1 p1 p2
        go_enter Tryd.func6, Tryd.ntmps6
        go_wp2_with fail
        refine (Cc.bytes_any none 0 0 K [] _ (nil_holds _) (by decide) (by omega)).mono ?_
        rintro e x1 ⟨rfl, g1⟩
        rw [HA.out]
        go_wp2_with fail
        refine (Cc.bytes_any none 0 0 O [] _ (nil_holds _) (by decide) (by omega)).mono ?_
        rintro e x2 ⟨rfl, g2⟩
        rw [HC.out]
        replace g2 := gb_none g1 g2
        clear g1
        go_wp2_with fail
        refine (seal_any A C ⟨#[]⟩ a2 _ (by decide) (hT.keep g2 (by simp)) (hB.keep g2)).mono ?_
        rintro e x3 ⟨rfl, g3⟩
        rw [HS.out]
        replace g3 := gb_none g2 g3
        clear g2
        go_wp2_with fail
        refine (Cc.bytes_any none 0 0 K [] _ (nil_holds _) (by decide) (by omega)).mono ?_
        rintro e x4 ⟨rfl, g4⟩
        rw [HA.out]
        replace g4 := gb_none g3 g4
        clear g3
        go_wp2_with fail
        refine (Cc.bytes_any none 0 0 O [] _ (nil_holds _) (by decide) (by omega)).mono ?_
        rintro e x5 ⟨rfl, g5⟩
        rw [HC.out]
        replace g5 := gb_none g4 g5
        clear g4
        go_wp2_with fail
        refine (Cc.bytes_any none 0 0 64 [] _ (nil_holds _) (by decide) (by omega)).mono ?_
        rintro e x6 ⟨rfl, g6⟩
        rw [HK.out]
        replace g6 := gb_none g5 g6
        clear g5
        go_wp2_with fail
        refine (Cc.bytes_any none 0 0 12 [] _ (nil_holds _) (by decide) (by omega)).mono ?_
        rintro e x7 ⟨rfl, g7⟩
        rw [HN.out]
        replace g7 := gb_none g6 g7
        clear g6
        go_wp2_with fail
        refine (refSeal_any k o ⟨#[]⟩ a2 _ (by decide)).mono ?_
        rintro e x8 ⟨rfl, g8⟩
        rw [HR.out]
        replace g8 := gb_none g7 g8
        clear g7
        go_wp2_with fail
        refine (open_any A C ⟨#[]⟩ R _ (by decide) HR9.out (hT.keep g8 (by simp)) (hB.keep g8)).mono ?_
        rintro e x9 ⟨rfl, g9⟩
        rw [HI.out]
        replace g9 := gb_none g8 g9
        clear g8
        go_wp2_with fail
        refine (awake6_any _ (hT.keep g9 (by simp)) (hB.keep g9)).mono ?_
        rintro e x10 ⟨rfl, g10⟩
        go_wp2_with fail
        go_ret
        exact ⟨rfl, below_of (gb_none g9 g10)⟩
      · have hI : I = false := by rw [← HI.out, openB_bad (fun h => p2 (hC.symm.trans h.2))]; rfl
        subst hI
        have hSe : S = ⟨#[]⟩ := by rw [← HS.out, sealB, if_neg (fun h => p2 (hC.symm.trans h.2.1))]
        subst hSe
        have t2 : ((K : Int) == 64) = true := by rw [p1]; rfl
        have t3 : ((O : Int) == 12) = false := by rw [beq_eq_false_iff_ne]; omega
        clear hA hC hk hn hsz hr9 hp p1 p2
        go_enter Tryd.func6, Tryd.ntmps6
        go_wp2_with fail
        refine (Cc.bytes_any none 0 0 K [] _ (nil_holds _) (by decide) (by omega)).mono ?_
        rintro e x1 ⟨rfl, g1⟩
        rw [HA.out]
        go_wp2_with fail
        refine (Cc.bytes_any none 0 0 O [] _ (nil_holds _) (by decide) (by omega)).mono ?_
        rintro e x2 ⟨rfl, g2⟩
        rw [HC.out]
        replace g2 := gb_none g1 g2
        clear g1
        go_wp2_with fail
        refine (seal_any A C ⟨#[]⟩ a2 _ (by decide) (hT.keep g2 (by simp)) (hB.keep g2)).mono ?_
        rintro e x3 ⟨rfl, g3⟩
        rw [HS.out]
        replace g3 := gb_none g2 g3
        clear g2
        go_wp2_with fail
        refine (Cc.bytes_any none 0 0 K [] _ (nil_holds _) (by decide) (by omega)).mono ?_
        rintro e x4 ⟨rfl, g4⟩
        rw [HA.out]
        replace g4 := gb_none g3 g4
        clear g3
        go_wp2_with fail
        refine (Cc.bytes_any none 0 0 O [] _ (nil_holds _) (by decide) (by omega)).mono ?_
        rintro e x5 ⟨rfl, g5⟩
        rw [HC.out]
        replace g5 := gb_none g4 g5
        clear g4
        go_wp2_with fail
        refine (Cc.bytes_any none 0 0 64 [] _ (nil_holds _) (by decide) (by omega)).mono ?_
        rintro e x6 ⟨rfl, g6⟩
        rw [HK.out]
        replace g6 := gb_none g5 g6
        clear g5
        go_wp2_with fail
        refine (Cc.bytes_any none 0 0 12 [] _ (nil_holds _) (by decide) (by omega)).mono ?_
        rintro e x7 ⟨rfl, g7⟩
        rw [HN.out]
        replace g7 := gb_none g6 g7
        clear g6
        go_wp2_with fail
        refine (refSeal_any k o ⟨#[]⟩ a2 _ (by decide)).mono ?_
        rintro e x8 ⟨rfl, g8⟩
        rw [HR.out]
        replace g8 := gb_none g7 g8
        clear g7
        go_wp2_with fail
        refine (open_any A C ⟨#[]⟩ R _ (by decide) HR9.out (hT.keep g8 (by simp)) (hB.keep g8)).mono ?_
        rintro e x9 ⟨rfl, g9⟩
        rw [HI.out]
        replace g9 := gb_none g8 g9
        clear g8
        go_wp2_with fail
        refine (awake6_any _ (hT.keep g9 (by simp)) (hB.keep g9)).mono ?_
        rintro e x10 ⟨rfl, g10⟩
        go_wp2_with fail
        go_ret
        exact ⟨rfl, below_of (gb_none g9 g10)⟩
    · have hI : I = false := by rw [← HI.out, openB_bad (fun h => p1 (hA.symm.trans h.1))]; rfl
      subst hI
      have hSe : S = ⟨#[]⟩ := by rw [← HS.out, sealB, if_neg (fun h => p1 (hA.symm.trans h.1))]
      subst hSe
      have t2 : ((K : Int) == 64) = false := by rw [beq_eq_false_iff_ne]; omega
      clear hA hC hk hn hsz hr9 hp p1
      go_enter Tryd.func6, Tryd.ntmps6
      go_wp2_with fail
      refine (Cc.bytes_any none 0 0 K [] _ (nil_holds _) (by decide) (by omega)).mono ?_
      rintro e x1 ⟨rfl, g1⟩
      rw [HA.out]
      go_wp2_with fail
      refine (Cc.bytes_any none 0 0 O [] _ (nil_holds _) (by decide) (by omega)).mono ?_
      rintro e x2 ⟨rfl, g2⟩
      rw [HC.out]
      replace g2 := gb_none g1 g2
      clear g1
      go_wp2_with fail
      refine (seal_any A C ⟨#[]⟩ a2 _ (by decide) (hT.keep g2 (by simp)) (hB.keep g2)).mono ?_
      rintro e x3 ⟨rfl, g3⟩
      rw [HS.out]
      replace g3 := gb_none g2 g3
      clear g2
      go_wp2_with fail
      refine (Cc.bytes_any none 0 0 K [] _ (nil_holds _) (by decide) (by omega)).mono ?_
      rintro e x4 ⟨rfl, g4⟩
      rw [HA.out]
      replace g4 := gb_none g3 g4
      clear g3
      go_wp2_with fail
      refine (Cc.bytes_any none 0 0 O [] _ (nil_holds _) (by decide) (by omega)).mono ?_
      rintro e x5 ⟨rfl, g5⟩
      rw [HC.out]
      replace g5 := gb_none g4 g5
      clear g4
      go_wp2_with fail
      refine (Cc.bytes_any none 0 0 64 [] _ (nil_holds _) (by decide) (by omega)).mono ?_
      rintro e x6 ⟨rfl, g6⟩
      rw [HK.out]
      replace g6 := gb_none g5 g6
      clear g5
      go_wp2_with fail
      refine (Cc.bytes_any none 0 0 12 [] _ (nil_holds _) (by decide) (by omega)).mono ?_
      rintro e x7 ⟨rfl, g7⟩
      rw [HN.out]
      replace g7 := gb_none g6 g7
      clear g6
      go_wp2_with fail
      refine (refSeal_any k o ⟨#[]⟩ a2 _ (by decide)).mono ?_
      rintro e x8 ⟨rfl, g8⟩
      rw [HR.out]
      replace g8 := gb_none g7 g8
      clear g7
      go_wp2_with fail
      refine (open_any A C ⟨#[]⟩ R _ (by decide) HR9.out (hT.keep g8 (by simp)) (hB.keep g8)).mono ?_
      rintro e x9 ⟨rfl, g9⟩
      rw [HI.out]
      replace g9 := gb_none g8 g9
      clear g8
      go_wp2_with fail
      refine (awake6_any _ (hT.keep g9 (by simp)) (hB.keep g9)).mono ?_
      rintro e x10 ⟨rfl, g10⟩
      go_wp2_with fail
      go_ret
      exact ⟨rfl, below_of (gb_none g9 g10)⟩

def zs1 : List Int := [1779033703, 3144134277, 1013904242, 2773480762, 1359893119, 2600822924, 528734635, 1541459225]
def zs2 : List Int := [1116352408, 1899447441, 3049323471, 3921009573, 961987163, 1508970993, 2453635748, 2870763221, 3624381080, 310598401, 607225278, 1426881987, 1925078388, 2162078206, 2614888103, 3248222580, 3835390401, 4022224774, 264347078, 604807628, 770255983, 1249150122, 1555081692, 1996064986, 2554220882, 2821834349, 2952996808, 3210313671, 3336571891, 3584528711, 113926993, 338241895, 666307205, 773529912, 1294757372, 1396182291, 1695183700, 1986661051, 2177026350, 2456956037, 2730485921, 2820302411, 3259730800, 3345764771, 3516065817, 3600352804, 4094571909, 275423344, 430227734, 506948616, 659060556, 883997877, 958139571, 1322822218, 1537002063, 1747873779, 1955562222, 2024104815, 2227730452, 2361852424, 2428436474, 2756734187, 3204031479, 3329325298]
theorem tabs {W : World} (h : laidMetH Tryd.prog Rows.boxSizesRow.laid W) : Tabs W := by
  have h1 : Lib.TabIs Tryd.prog W "deaddrop/sha.opening" .u32 zs1 := Lib.tabIs_of_head (rest := [("deaddrop/sha.roundNumbers", Rows.laid_deaddrop_sha_roundNumbers), ("deaddrop/box.errKey", Rows.laid_deaddrop_box_errKey), ("deaddrop/box.errNonce", Rows.laid_deaddrop_box_errNonce), ("deaddrop/box.errShort", Rows.laid_deaddrop_box_errShort), ("deaddrop/box.errLong", Rows.laid_deaddrop_box_errLong), ("deaddrop/box.errTag", Rows.laid_deaddrop_box_errTag)]) (g := 5) (t := 98) (e := 56) (n := 8) (by kernel_rfl) (by kernel_rfl) Tryd.underlying98 Tryd.underlying56 (by kernel_rfl) (by kernel_rfl) h
  have h2 : Lib.TabIs Tryd.prog W "deaddrop/sha.roundNumbers" .u32 zs2 := Lib.tabIs_of_head (rest := []) (g := 6) (t := 110) (e := 56) (n := 64) (by kernel_rfl) (by kernel_rfl) Tryd.underlying110 Tryd.underlying56 (by kernel_rfl) (by kernel_rfl) (laidMetH.filter (fun x => x.1 == "deaddrop/sha.roundNumbers") h)
  have e1 : ∀ i, i < 8 → zs1.getD i 0 = ((firstH.getD i 0).toNat : Int) := by decide
  have e2 : ∀ i, i < 64 → zs2.getD i 0 = ((konst.getD i 0).toNat : Int) := by decide +kernel
  have c1 : ∀ i, i < 8 → W.cell? ⟨5, i, none⟩ = some (w32 (firstH.getD i 0)) := fun i hi => by
    have := h1.cell (g := 5) (by kernel_rfl) i (by rw [show zs1.length = 8 from rfl]; exact hi)
    rw [e1 i hi] at this; exact this
  have c2 : ∀ i, i < 64 → W.cell? ⟨6, i, none⟩ = some (w32 (konst.getD i 0)) := fun i hi => by
    have := h2.cell (g := 6) (by kernel_rfl) i (by rw [show zs2.length = 64 from rfl]; exact hi)
    rw [e2 i hi] at this; exact this
  exact ⟨block_lt_of_cell (c2 0 (by decide)), c1, c2⟩

theorem star : "*" ++ "errors.errorString" = "*errors.errorString" := by decide
theorem row_err (u : TypeId) (h : Tryd.prog.typeName? 3 u = some "*errors.errorString") : u = 113 :=
  typeName_ptr_named (nm := "errors.errorString") (by rw [star]; kernel_rfl) (by kernel_rfl) (by decide) u (by rw [star]; exact h)
theorem pair0 {W : World} (h : laidMetH Tryd.prog Rows.boxSizesRow.laid W) : Bx.BE W 3 ∧ Bx.BE W 4 := by
  have h4 : laidMet Tryd.prog [("deaddrop/box.errKey", Rows.laid_deaddrop_box_errKey), ("deaddrop/box.errNonce", Rows.laid_deaddrop_box_errNonce)] W := (laidMetH_iff.1 (laidMetH.filter (fun x => x.1 == "deaddrop/box.errKey" || x.1 == "deaddrop/box.errNonce") h)).1
  obtain ⟨a0, a1, s0, s1, c0, c1, t0, t1, hv0, hv1, hc0, hs0, hz0, hc1, hs1, hz1, hne, hb0, hb1⟩ := laid_sentinels2 h4 (g0 := 3) (g1 := 4) (ti := 41) (by kernel_rfl) (by kernel_rfl) (by kernel_rfl) (by kernel_rfl) Tryd.underlying41 row_err Tryd.underlying113 Tryd.underlying137 rfl rfl Tryd.underlying9 (by kernel_rfl) (by kernel_rfl)
  exact ⟨⟨a0, c0, t0, by simpa using World.var?_cell (g := 3) (by kernel_rfl) hv0 0, hb0⟩, ⟨a1, c1, t1, by simpa using World.var?_cell (g := 4) (by kernel_rfl) hv1 0, hb1⟩⟩
theorem pair1 {W : World} (h : laidMetH Tryd.prog Rows.boxSizesRow.laid W) : Bx.BE W 0 ∧ Bx.BE W 1 := by
  have h4 : laidMet Tryd.prog [("deaddrop/box.errShort", Rows.laid_deaddrop_box_errShort), ("deaddrop/box.errLong", Rows.laid_deaddrop_box_errLong)] W := (laidMetH_iff.1 (laidMetH.filter (fun x => x.1 == "deaddrop/box.errShort" || x.1 == "deaddrop/box.errLong") h)).1
  obtain ⟨a0, a1, s0, s1, c0, c1, t0, t1, hv0, hv1, hc0, hs0, hz0, hc1, hs1, hz1, hne, hb0, hb1⟩ := laid_sentinels2 h4 (g0 := 0) (g1 := 1) (ti := 41) (by kernel_rfl) (by kernel_rfl) (by kernel_rfl) (by kernel_rfl) Tryd.underlying41 row_err Tryd.underlying113 Tryd.underlying137 rfl rfl Tryd.underlying9 (by kernel_rfl) (by kernel_rfl)
  exact ⟨⟨a0, c0, t0, by simpa using World.var?_cell (g := 0) (by kernel_rfl) hv0 0, hb0⟩, ⟨a1, c1, t1, by simpa using World.var?_cell (g := 1) (by kernel_rfl) hv1 0, hb1⟩⟩
theorem pair2 {W : World} (h : laidMetH Tryd.prog Rows.boxSizesRow.laid W) : Bx.BE W 1 ∧ Bx.BE W 2 := by
  have h4 : laidMet Tryd.prog [("deaddrop/box.errLong", Rows.laid_deaddrop_box_errLong), ("deaddrop/box.errTag", Rows.laid_deaddrop_box_errTag)] W := (laidMetH_iff.1 (laidMetH.filter (fun x => x.1 == "deaddrop/box.errLong" || x.1 == "deaddrop/box.errTag") h)).1
  obtain ⟨a0, a1, s0, s1, c0, c1, t0, t1, hv0, hv1, hc0, hs0, hz0, hc1, hs1, hz1, hne, hb0, hb1⟩ := laid_sentinels2 h4 (g0 := 1) (g1 := 2) (ti := 41) (by kernel_rfl) (by kernel_rfl) (by kernel_rfl) (by kernel_rfl) Tryd.underlying41 row_err Tryd.underlying113 Tryd.underlying137 rfl rfl Tryd.underlying9 (by kernel_rfl) (by kernel_rfl)
  exact ⟨⟨a0, c0, t0, by simpa using World.var?_cell (g := 1) (by kernel_rfl) hv0 0, hb0⟩, ⟨a1, c1, t1, by simpa using World.var?_cell (g := 2) (by kernel_rfl) hv1 0, hb1⟩⟩
theorem berrs {W : World} (h : laidMetH Tryd.prog Rows.boxSizesRow.laid W) : Bx.BErrs W := ⟨(pair0 h).1, (pair0 h).2, (pair1 h).1, (pair1 h).2, (pair2 h).2⟩

set_option maxRecDepth 100000 in
theorem contract (H : Type) (enc : TypeId × Value → H) (W : World) (base : Nat) (args : Array Value) (ds gs : List (DataW H)) (before : List MemPlace)
    (hval0 : ∀ (j : Nat) t v, Tryd.f6.params[j]? = some t → args[j]? = some v → Value.okWide Tryd.prog W .any base t v)
    (hW : DataW.Whole enc Tryd.prog Tryd.f6.params.toList Rows.boxSizesSpec.vars false W args.toList ds gs before) (hL : laidMetH Tryd.prog Rows.boxSizesRow.laid W) :
    Calls Tryd.prog 6 args W fun e W' => ∃ v, e = .returned v ∧ Rows.boxSizesSpec.post enc Tryd.prog Tryd.f6 false true false false W args v W' := by
  have hval : ∀ (j : Nat) t v, Tryd.f6.params[j]? = some t → args[j]? = some v → Value.okWide Tryd.prog W .any base t v := hval0
  have hW' := hW
  obtain ⟨p, q, hA0, hV, rfl, hfz, hnd⟩ := hW
  have hA : DataW.TrodAll enc Tryd.prog W 0 (fun _ => true) true Tryd.f6.params.toList args.toList ds p := hA0
  rw [Tryd.params6] at hA hval
  obtain ⟨v0, vs0, d0, ds0, p0, q0, hargs, rfl, rfl, h0, r0⟩ := trodAll_cons hA
  obtain ⟨v1, vs1, d1, ds1, p1, q1, rfl, rfl, rfl, h1, r1⟩ := trodAll_cons r0
  obtain ⟨v2, vs2, d2, ds2, p2, q2, rfl, rfl, rfl, h2, r2⟩ := trodAll_cons r1
  obtain ⟨rfl, rfl, rfl⟩ := trodAll_nil r2
  obtain rfl : args = #[v0, v1, v2] := by cases args; simp_all
  obtain ⟨rfl, rfl⟩ := trodVars_none hV
  obtain ⟨a0, rfl, rfl, rfl, w0⟩ := open_int Tryd.underlying5 (hval 0 5 v0 rfl rfl) h0
  obtain ⟨a1, rfl, rfl, rfl, w1⟩ := open_int Tryd.underlying5 (hval 1 5 v1 rfl rfl) h1
  obtain ⟨a2, rfl, rfl, rfl, w2⟩ := open_string Tryd.underlying9 (hval 2 9 v2 rfl rfl) h2
  clear hA0 hval0
  simp only [List.append_nil] at hW'
  refine (walk a0 a1 a2 w0 w1 w2 W (tabs hL) (berrs hL)).mono fun e W' ⟨he, hg⟩ => ?_
  subst he
  exact ⟨_, rfl, _, _, _, [], [], [], hW', (trodAll_cons_mk (shut_bool Tryd.underlying4 _) trodAll_mk0), (trodAll_cons_mk (shut_int Tryd.underlying5 w0) (trodAll_cons_mk (shut_int Tryd.underlying5 w1) (trodAll_cons_mk (shut_string Tryd.underlying9 w2) trodAll_mk0))), rfl, hg.frame _, fun h => by cases h⟩

def lay (cs : Array Value) : Obj → Obj
  | .cells _ t frozen => .cells cs t frozen
  | o => o
noncomputable def low : Nat := (World.holding Tryd.prog default ⟨#[], #[], []⟩).heap.size
noncomputable def laidWorld (os : Os) : World :=
  { World.holding Tryd.prog os ⟨#[.cells #[.string ⟨#[110, 111, 116, 32, 97, 115, 32, 108, 111, 110, 103, 32, 97, 115, 32, 97, 32, 112, 97, 105, 114, 32, 111, 102, 32, 107, 101, 121, 115]⟩] 137, .cells #[.string ⟨#[110, 111, 116, 32, 97, 115, 32, 108, 111, 110, 103, 32, 97, 115, 32, 97, 32, 110, 111, 110, 99, 101]⟩] 137, .cells #[.string ⟨#[115, 104, 111, 114, 116, 101, 114, 32, 116, 104, 97, 110, 32, 97, 32, 116, 97, 103]⟩] 137, .cells #[.string ⟨#[108, 111, 110, 103, 101, 114, 32, 116, 104, 97, 110, 32, 119, 104, 97, 116, 32, 105, 115, 32, 101, 118, 101, 114, 32, 115, 101, 97, 108, 101, 100]⟩] 137, .cells #[.string ⟨#[116, 104, 101, 32, 116, 97, 103, 32, 100, 111, 101, 115, 32, 110, 111, 116, 32, 102, 105, 116]⟩] 137], #[], []⟩ with heap := (((((((World.holding Tryd.prog os ⟨#[.cells #[.string ⟨#[110, 111, 116, 32, 97, 115, 32, 108, 111, 110, 103, 32, 97, 115, 32, 97, 32, 112, 97, 105, 114, 32, 111, 102, 32, 107, 101, 121, 115]⟩] 137, .cells #[.string ⟨#[110, 111, 116, 32, 97, 115, 32, 108, 111, 110, 103, 32, 97, 115, 32, 97, 32, 110, 111, 110, 99, 101]⟩] 137, .cells #[.string ⟨#[115, 104, 111, 114, 116, 101, 114, 32, 116, 104, 97, 110, 32, 97, 32, 116, 97, 103]⟩] 137, .cells #[.string ⟨#[108, 111, 110, 103, 101, 114, 32, 116, 104, 97, 110, 32, 119, 104, 97, 116, 32, 105, 115, 32, 101, 118, 101, 114, 32, 115, 101, 97, 108, 101, 100]⟩] 137, .cells #[.string ⟨#[116, 104, 101, 32, 116, 97, 103, 32, 100, 111, 101, 115, 32, 110, 111, 116, 32, 102, 105, 116]⟩] 137], #[], []⟩).heap.modify 5 (lay #[.int .u32 1779033703, .int .u32 3144134277, .int .u32 1013904242, .int .u32 2773480762, .int .u32 1359893119, .int .u32 2600822924, .int .u32 528734635, .int .u32 1541459225])).modify 6 (lay #[.int .u32 1116352408, .int .u32 1899447441, .int .u32 3049323471, .int .u32 3921009573, .int .u32 961987163, .int .u32 1508970993, .int .u32 2453635748, .int .u32 2870763221, .int .u32 3624381080, .int .u32 310598401, .int .u32 607225278, .int .u32 1426881987, .int .u32 1925078388, .int .u32 2162078206, .int .u32 2614888103, .int .u32 3248222580, .int .u32 3835390401, .int .u32 4022224774, .int .u32 264347078, .int .u32 604807628, .int .u32 770255983, .int .u32 1249150122, .int .u32 1555081692, .int .u32 1996064986, .int .u32 2554220882, .int .u32 2821834349, .int .u32 2952996808, .int .u32 3210313671, .int .u32 3336571891, .int .u32 3584528711, .int .u32 113926993, .int .u32 338241895, .int .u32 666307205, .int .u32 773529912, .int .u32 1294757372, .int .u32 1396182291, .int .u32 1695183700, .int .u32 1986661051, .int .u32 2177026350, .int .u32 2456956037, .int .u32 2730485921, .int .u32 2820302411, .int .u32 3259730800, .int .u32 3345764771, .int .u32 3516065817, .int .u32 3600352804, .int .u32 4094571909, .int .u32 275423344, .int .u32 430227734, .int .u32 506948616, .int .u32 659060556, .int .u32 883997877, .int .u32 958139571, .int .u32 1322822218, .int .u32 1537002063, .int .u32 1747873779, .int .u32 1955562222, .int .u32 2024104815, .int .u32 2227730452, .int .u32 2361852424, .int .u32 2428436474, .int .u32 2756734187, .int .u32 3204031479, .int .u32 3329325298])).modify 3 (lay #[.iface 113 (.pointer (some ⟨low, 0, none⟩))])).modify 4 (lay #[.iface 113 (.pointer (some ⟨low + 1, 0, none⟩))])).modify 0 (lay #[.iface 113 (.pointer (some ⟨low + 2, 0, none⟩))])).modify 1 (lay #[.iface 113 (.pointer (some ⟨low + 3, 0, none⟩))])).modify 2 (lay #[.iface 113 (.pointer (some ⟨low + 4, 0, none⟩))]) }
theorem laid_met (os : Os) : laidMet Tryd.prog Rows.boxSizesRow.laid ((laidWorld os).forCall (fun _ _ => 0) ⟨#[], #[.int .u8 0, .int .u8 0, .string ByteArray.empty], []⟩).memory :=
  laidMet_of_run' 8 (by kernel_rfl) (by kernel_rfl)
theorem reads (os : Os) {H : Type} (enc : TypeId × Value → H) : ∃ places, DataW.whole enc Tryd.prog ((laidWorld os).forCall (fun _ _ => 0) ⟨#[], #[.int .u8 0, .int .u8 0, .string ByteArray.empty], []⟩).memory Tryd.f6.params.toList Rows.boxSizesSpec.vars false (show Array Value from #[.int .u8 0, .int .u8 0, .string ByteArray.empty]).toList 8 = some ([.lit (.int .u8 0), .lit (.int .u8 0), .lit (.string [])], [], places) :=
  ⟨[], by kernel_rfl⟩

set_option maxRecDepth 100000 in
theorem lifted (os : Os) (started : os.Started) (H : Type) (enc : TypeId × Value → H) (F : Stop.Interp) :
    ReturnsInHanded {} Tryd.checked os 6 .any ((OpenSpec.ofChange Rows.boxSizesSpec).preRow enc Tryd.prog Tryd.f6 Rows.boxSizesRow.domain false Rows.boxSizesRow.laid) (((OpenSpec.ofChange Rows.boxSizesSpec).at F).post enc Tryd.prog Tryd.f6 false true false false) := by
  obtain ⟨places, hx⟩ := reads os enc
  refine returnsInHanded_of_row (C := Tryd.checked) (s := OpenSpec.ofChange Rows.boxSizesSpec) own started (by kernel_rfl) Tryd.func6
    (witness_row_at (enc := enc) (C := Tryd.checked) false (laidWorld os) #[.int .u8 0, .int .u8 0, .string ByteArray.empty] rfl (by kernel_rfl) (by kernel_rfl) (by kernel_rfl)
      (OpenSpec.preRow_of_cond 8 hx (by kernel_rfl) (fun k hk => by cases hk) (by kernel_rfl) (laid_met os))) ?_
  intro W base args ds gs before hval hW _ _ _ hL _ _
  exact contract H enc W base args ds gs before hval hW hL

theorem said : Rows.BoxSizesSaid :=
  OpenClaim.holds_of_cond 6 Tryd.f6 rfl rfl rfl rfl rfl rfl rfl ⟨rfl, rfl, rfl, rfl, rfl⟩ rfl rfl rfl rfl rfl (by kernel_rfl) Tryd.func6 (by kernel_rfl)
    (of_decide_eq_true (by kernel_rfl)) (by unfold Func.isWrapper; first | (rw [if_pos (by decide +kernel)]; kernel_rfl) | (rw [if_neg (by decide +kernel)]; exact ⟨rfl, rfl⟩))
    (fun os started H enc _ F => by rw [OpenClaim.pre_eq_preRow]; exact lifted os started H enc F)

theorem plain (f : FuncId) (fn : Func) (hf : Tryd.pinned.checked.prog.funcNamed "deaddrop/deaddroplaw6.BoxSizes" = some f) (hfn : Tryd.pinned.checked.prog.funcs[f]? = some fn) :
    true = Tryd.pinned.checked.prog.looks [] ∧ ∀ (j : Nat) t, fn.params[j]? = some t → Tryd.pinned.checked.prog.wantsStandIn t = false := by
  obtain rfl : f = 6 := Option.some.inj ((show Tryd.prog.funcNamed "deaddrop/deaddroplaw6.BoxSizes" = some 6 by kernel_rfl).symm.trans hf) |>.symm
  obtain rfl : fn = Tryd.f6 := (Option.some.inj (Tryd.func6.symm.trans hfn)).symm
  refine ⟨by kernel_rfl, fun j t ht => ?_⟩
  have hall : (Tryd.f6.params.toList.all fun u => !Tryd.prog.wantsStandIn u) = true := by kernel_rfl
  have hm : t ∈ Tryd.f6.params.toList := by simpa using Array.mem_of_getElem? ht
  exact (show Tryd.prog.wantsStandIn t = false by simpa using List.all_eq_true.1 hall t hm)

theorem card : Rows.BoxSizesCardSaid :=
  Claim7.holds_tied_plain_at .later [] _ _ _ _ said (fun _ h => by cases h) (by kernel_rfl) (fun _ h => by cases h) boxSizes_row_tie rfl ⟨rfl, rfl⟩ (by kernel_rfl) rfl plain (by kernel_rfl)
#print axioms card
end Go.Proofs.YthdealjnhgkoiaaDoor.boxSizes
