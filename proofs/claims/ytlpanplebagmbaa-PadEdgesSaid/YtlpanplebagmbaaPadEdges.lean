/-
  Proved: whatever values of its parameters' types it is called with, deaddroplaw5.PadEdges returns true, and each argument reads behind the call as it read before.
  Conditions: none but those of the row itself.
  (The frame round the walk was written by the kit's proof-skeleton.mjs.)
-/
import Derived.Test.YtlpanplebagmbaaRows
import Derived.WalkKit
import Derived.ProofKit
import Derived.OpenShut
import Derived.ShutString
import Derived.Test.YtlpanplebagmbaaPPad
import Derived.Test.YtlpanplebagmbaaPRow
import Derived.IntWalk
import Derived.Below
namespace Go.Proofs.Ytlpanplebagmbaa.padEdges
open Go.ChangeShapes Go.WideShapes Go.ChangeAt Go.RowKit
open Go.ChangeMaps (open_string shut_string)
open Go.Proofs.Ytlpanplebagmbaa.Wd Go.Proofs.Ytlpanplebagmbaa.Mm
set_option linter.unusedVariables false      -- a walk need not use every 'w<i>' (that an integer argument fits its kind)

theorem own : ownKnob Try.prog.godebug = none := by kernel_rfl

theorem below_of {w w' : World} (h : w.grownBy w' none) : Below w.heap.size w w' := gb_below h (Nat.le_refl _)
theorem u8_of {a : Int} (h : (Lit.int .u8 a).wf = true) : 0 ≤ a ∧ a ≤ 255 := by
  have h1 : IntKind.u8.min = 0 := by decide
  have h2 : IntKind.u8.max = 255 := by decide
  simp only [Lit.wf, h1, h2, Bool.and_eq_true, decide_eq_true_eq] at h
  exact h
theorem five {a : Int} (h : 0 ≤ a ∧ a ≤ 255) : (wrap64 a).tmod 5 = 0 ∨ (wrap64 a).tmod 5 = 1 ∨ (wrap64 a).tmod 5 = 2 ∨ (wrap64 a).tmod 5 = 3 ∨ (wrap64 a).tmod 5 = 4 := by
  have e : wrap64 a = a := by unfold wrap64; omega
  rw [e, Int.tmod_eq_emod_of_nonneg h.1]
  omega

set_option maxHeartbeats 40000000 in
set_option maxRecDepth 100000 in
theorem walk (a0 : Int) (w0 : (Lit.int .u8 a0).wf = true) (w : World) :
    Calls Try.prog 3 #[.int .u8 a0] w fun e w' => e = .returned (.bool true) ∧ Below w.heap.size w w' := by
  have h0 := five (u8_of w0)
  clear w0
  rcases h0 with hk | hk | hk | hk | hk
  · have hmk := fun W => make_zero 63 63 rfl (by decide) W
    have hcv : (convert 23 9 (.slice (some ⟨w.heap.size + 1, 0, none⟩) 63 63)).run Try.prog ((w.alloc (.cells #[.int .i64 64, .int .i64 256, .int .i64 1024, .int .i64 4096, .int .i64 16384] 3)).alloc (.cells (zc 63) 5)) = .ok (.string (zs 63)) ((w.alloc (.cells #[.int .i64 64, .int .i64 256, .int .i64 1024, .int .i64 4096, .int .i64 16384] 3)).alloc (.cells (zc 63) 5)) := by
      have := text_zero 63 (w.alloc (.cells #[.int .i64 64, .int .i64 256, .int .i64 1024, .int .i64 4096, .int .i64 16384] 3)) _ (Row.new _ 5 (zc 63))
      simpa using this
    have hz := zs_size 63
    obtain ⟨Z, HZ⟩ : ∃ Z, Hid (zs 63 = Z) := ⟨_, rfl⟩
    rw [HZ.out] at hcv hz
    have HR := Lib.hid ((Row.new w 3 #[.int .i64 64, .int .i64 256, .int .i64 1024, .int .i64 4096, .int .i64 16384]).alloc (.cells (zc 63) 5))
    have HG := Lib.hid (gb_alloc (gb_alloc (gb_refl w none) (.cells #[.int .i64 64, .int .i64 256, .int .i64 1024, .int .i64 4096, .int .i64 16384] 3)) (.cells (zc 63) 5))
    have hb1 : bk (Z.size : Int) = 64 := by rw [hz]; rfl
    have HP1 := Lib.hid (fun W => pad_some Z W (by rw [hb1]; decide))
    have hp1 := padB_size Z (by rw [hb1]; decide)
    rw [hb1] at hp1
    obtain ⟨P1, HN1⟩ : ∃ P, Hid (padB Z = P) := ⟨_, rfl⟩
    rw [HN1.out] at hp1
    have hz2 : (Z ++ (⟨#[120]⟩ : ByteArray)).size = 64 := by rw [ByteArray.size_append, hz]; rfl
    have hb2 : bk ((Z ++ (⟨#[120]⟩ : ByteArray)).size : Int) = 256 := by rw [hz2]; rfl
    have HP2 := Lib.hid (fun W => pad_some (Z ++ (⟨#[120]⟩ : ByteArray)) W (by rw [hb2]; decide))
    have hp2 := padB_size (Z ++ (⟨#[120]⟩ : ByteArray)) (by rw [hb2]; decide)
    rw [hb2] at hp2
    obtain ⟨P2, HN2⟩ : ∃ P, Hid (padB (Z ++ (⟨#[120]⟩ : ByteArray)) = P) := ⟨_, rfl⟩
    rw [HN2.out] at hp2
    have he1 : ((P1.size : Int) == 64) = true := by rw [hp1]; rfl
    have he2 : ((P2.size : Int) == 256) = true := by rw [hp2]; rfl
    clear hz2 hb1 hb2 hp1 hp2
    go_enter Try.func3, Try.ntmps3
    go_wp2_with fail
    refine (HP1.out _).mono ?_
    rintro e w1 ⟨rfl, g1⟩
    rw [HN1.out]
    have HR1 := Lib.hid (HR.out.kept g1 (by simp))
    have HG1 := Lib.hid (gb_none HG.out g1)
    clear g1
    go_wp2_with fail
    refine (HP2.out _).mono ?_
    rintro e w2 ⟨rfl, g2⟩
    rw [HN2.out]
    have hc1 := (HR1.out.kept g2 (by simp)).at_ (i := 0) rfl
    have hc2 := (HR1.out.kept g2 (by simp)).at_ (i := 1) rfl
    have HG2 := Lib.hid (gb_none HG1.out g2)
    clear g2
    go_wp2_with fail
    refine (awake_any _).mono ?_
    rintro e w3 ⟨rfl, rfl⟩
    go_wp2_with fail
    go_ret
    exact ⟨rfl, below_of HG2.out⟩
  · have hmk := fun W => make_zero 255 255 rfl (by decide) W
    have hcv : (convert 23 9 (.slice (some ⟨w.heap.size + 1, 0, none⟩) 255 255)).run Try.prog ((w.alloc (.cells #[.int .i64 64, .int .i64 256, .int .i64 1024, .int .i64 4096, .int .i64 16384] 3)).alloc (.cells (zc 255) 5)) = .ok (.string (zs 255)) ((w.alloc (.cells #[.int .i64 64, .int .i64 256, .int .i64 1024, .int .i64 4096, .int .i64 16384] 3)).alloc (.cells (zc 255) 5)) := by
      have := text_zero 255 (w.alloc (.cells #[.int .i64 64, .int .i64 256, .int .i64 1024, .int .i64 4096, .int .i64 16384] 3)) _ (Row.new _ 5 (zc 255))
      simpa using this
    have hz := zs_size 255
    obtain ⟨Z, HZ⟩ : ∃ Z, Hid (zs 255 = Z) := ⟨_, rfl⟩
    rw [HZ.out] at hcv hz
    have HR := Lib.hid ((Row.new w 3 #[.int .i64 64, .int .i64 256, .int .i64 1024, .int .i64 4096, .int .i64 16384]).alloc (.cells (zc 255) 5))
    have HG := Lib.hid (gb_alloc (gb_alloc (gb_refl w none) (.cells #[.int .i64 64, .int .i64 256, .int .i64 1024, .int .i64 4096, .int .i64 16384] 3)) (.cells (zc 255) 5))
    have hb1 : bk (Z.size : Int) = 256 := by rw [hz]; rfl
    have HP1 := Lib.hid (fun W => pad_some Z W (by rw [hb1]; decide))
    have hp1 := padB_size Z (by rw [hb1]; decide)
    rw [hb1] at hp1
    obtain ⟨P1, HN1⟩ : ∃ P, Hid (padB Z = P) := ⟨_, rfl⟩
    rw [HN1.out] at hp1
    have hz2 : (Z ++ (⟨#[120]⟩ : ByteArray)).size = 256 := by rw [ByteArray.size_append, hz]; rfl
    have hb2 : bk ((Z ++ (⟨#[120]⟩ : ByteArray)).size : Int) = 1024 := by rw [hz2]; rfl
    have HP2 := Lib.hid (fun W => pad_some (Z ++ (⟨#[120]⟩ : ByteArray)) W (by rw [hb2]; decide))
    have hp2 := padB_size (Z ++ (⟨#[120]⟩ : ByteArray)) (by rw [hb2]; decide)
    rw [hb2] at hp2
    obtain ⟨P2, HN2⟩ : ∃ P, Hid (padB (Z ++ (⟨#[120]⟩ : ByteArray)) = P) := ⟨_, rfl⟩
    rw [HN2.out] at hp2
    have he1 : ((P1.size : Int) == 256) = true := by rw [hp1]; rfl
    have he2 : ((P2.size : Int) == 1024) = true := by rw [hp2]; rfl
    clear hz2 hb1 hb2 hp1 hp2
    go_enter Try.func3, Try.ntmps3
    go_wp2_with fail
    refine (HP1.out _).mono ?_
    rintro e w1 ⟨rfl, g1⟩
    rw [HN1.out]
    have HR1 := Lib.hid (HR.out.kept g1 (by simp))
    have HG1 := Lib.hid (gb_none HG.out g1)
    clear g1
    go_wp2_with fail
    refine (HP2.out _).mono ?_
    rintro e w2 ⟨rfl, g2⟩
    rw [HN2.out]
    have hc1 := (HR1.out.kept g2 (by simp)).at_ (i := 1) rfl
    have hc2 := (HR1.out.kept g2 (by simp)).at_ (i := 2) rfl
    have HG2 := Lib.hid (gb_none HG1.out g2)
    clear g2
    go_wp2_with fail
    refine (awake_any _).mono ?_
    rintro e w3 ⟨rfl, rfl⟩
    go_wp2_with fail
    go_ret
    exact ⟨rfl, below_of HG2.out⟩
  · have hmk := fun W => make_zero 1023 1023 rfl (by decide) W
    have hcv : (convert 23 9 (.slice (some ⟨w.heap.size + 1, 0, none⟩) 1023 1023)).run Try.prog ((w.alloc (.cells #[.int .i64 64, .int .i64 256, .int .i64 1024, .int .i64 4096, .int .i64 16384] 3)).alloc (.cells (zc 1023) 5)) = .ok (.string (zs 1023)) ((w.alloc (.cells #[.int .i64 64, .int .i64 256, .int .i64 1024, .int .i64 4096, .int .i64 16384] 3)).alloc (.cells (zc 1023) 5)) := by
      have := text_zero 1023 (w.alloc (.cells #[.int .i64 64, .int .i64 256, .int .i64 1024, .int .i64 4096, .int .i64 16384] 3)) _ (Row.new _ 5 (zc 1023))
      simpa using this
    have hz := zs_size 1023
    obtain ⟨Z, HZ⟩ : ∃ Z, Hid (zs 1023 = Z) := ⟨_, rfl⟩
    rw [HZ.out] at hcv hz
    have HR := Lib.hid ((Row.new w 3 #[.int .i64 64, .int .i64 256, .int .i64 1024, .int .i64 4096, .int .i64 16384]).alloc (.cells (zc 1023) 5))
    have HG := Lib.hid (gb_alloc (gb_alloc (gb_refl w none) (.cells #[.int .i64 64, .int .i64 256, .int .i64 1024, .int .i64 4096, .int .i64 16384] 3)) (.cells (zc 1023) 5))
    have hb1 : bk (Z.size : Int) = 1024 := by rw [hz]; rfl
    have HP1 := Lib.hid (fun W => pad_some Z W (by rw [hb1]; decide))
    have hp1 := padB_size Z (by rw [hb1]; decide)
    rw [hb1] at hp1
    obtain ⟨P1, HN1⟩ : ∃ P, Hid (padB Z = P) := ⟨_, rfl⟩
    rw [HN1.out] at hp1
    have hz2 : (Z ++ (⟨#[120]⟩ : ByteArray)).size = 1024 := by rw [ByteArray.size_append, hz]; rfl
    have hb2 : bk ((Z ++ (⟨#[120]⟩ : ByteArray)).size : Int) = 4096 := by rw [hz2]; rfl
    have HP2 := Lib.hid (fun W => pad_some (Z ++ (⟨#[120]⟩ : ByteArray)) W (by rw [hb2]; decide))
    have hp2 := padB_size (Z ++ (⟨#[120]⟩ : ByteArray)) (by rw [hb2]; decide)
    rw [hb2] at hp2
    obtain ⟨P2, HN2⟩ : ∃ P, Hid (padB (Z ++ (⟨#[120]⟩ : ByteArray)) = P) := ⟨_, rfl⟩
    rw [HN2.out] at hp2
    have he1 : ((P1.size : Int) == 1024) = true := by rw [hp1]; rfl
    have he2 : ((P2.size : Int) == 4096) = true := by rw [hp2]; rfl
    clear hz2 hb1 hb2 hp1 hp2
    go_enter Try.func3, Try.ntmps3
    go_wp2_with fail
    refine (HP1.out _).mono ?_
    rintro e w1 ⟨rfl, g1⟩
    rw [HN1.out]
    have HR1 := Lib.hid (HR.out.kept g1 (by simp))
    have HG1 := Lib.hid (gb_none HG.out g1)
    clear g1
    go_wp2_with fail
    refine (HP2.out _).mono ?_
    rintro e w2 ⟨rfl, g2⟩
    rw [HN2.out]
    have hc1 := (HR1.out.kept g2 (by simp)).at_ (i := 2) rfl
    have hc2 := (HR1.out.kept g2 (by simp)).at_ (i := 3) rfl
    have HG2 := Lib.hid (gb_none HG1.out g2)
    clear g2
    go_wp2_with fail
    refine (awake_any _).mono ?_
    rintro e w3 ⟨rfl, rfl⟩
    go_wp2_with fail
    go_ret
    exact ⟨rfl, below_of HG2.out⟩
  · have hmk := fun W => make_zero 4095 4095 rfl (by decide) W
    have hcv : (convert 23 9 (.slice (some ⟨w.heap.size + 1, 0, none⟩) 4095 4095)).run Try.prog ((w.alloc (.cells #[.int .i64 64, .int .i64 256, .int .i64 1024, .int .i64 4096, .int .i64 16384] 3)).alloc (.cells (zc 4095) 5)) = .ok (.string (zs 4095)) ((w.alloc (.cells #[.int .i64 64, .int .i64 256, .int .i64 1024, .int .i64 4096, .int .i64 16384] 3)).alloc (.cells (zc 4095) 5)) := by
      have := text_zero 4095 (w.alloc (.cells #[.int .i64 64, .int .i64 256, .int .i64 1024, .int .i64 4096, .int .i64 16384] 3)) _ (Row.new _ 5 (zc 4095))
      simpa using this
    have hz := zs_size 4095
    obtain ⟨Z, HZ⟩ : ∃ Z, Hid (zs 4095 = Z) := ⟨_, rfl⟩
    rw [HZ.out] at hcv hz
    have HR := Lib.hid ((Row.new w 3 #[.int .i64 64, .int .i64 256, .int .i64 1024, .int .i64 4096, .int .i64 16384]).alloc (.cells (zc 4095) 5))
    have HG := Lib.hid (gb_alloc (gb_alloc (gb_refl w none) (.cells #[.int .i64 64, .int .i64 256, .int .i64 1024, .int .i64 4096, .int .i64 16384] 3)) (.cells (zc 4095) 5))
    have hb1 : bk (Z.size : Int) = 4096 := by rw [hz]; rfl
    have HP1 := Lib.hid (fun W => pad_some Z W (by rw [hb1]; decide))
    have hp1 := padB_size Z (by rw [hb1]; decide)
    rw [hb1] at hp1
    obtain ⟨P1, HN1⟩ : ∃ P, Hid (padB Z = P) := ⟨_, rfl⟩
    rw [HN1.out] at hp1
    have hz2 : (Z ++ (⟨#[120]⟩ : ByteArray)).size = 4096 := by rw [ByteArray.size_append, hz]; rfl
    have hb2 : bk ((Z ++ (⟨#[120]⟩ : ByteArray)).size : Int) = 16384 := by rw [hz2]; rfl
    have HP2 := Lib.hid (fun W => pad_some (Z ++ (⟨#[120]⟩ : ByteArray)) W (by rw [hb2]; decide))
    have hp2 := padB_size (Z ++ (⟨#[120]⟩ : ByteArray)) (by rw [hb2]; decide)
    rw [hb2] at hp2
    obtain ⟨P2, HN2⟩ : ∃ P, Hid (padB (Z ++ (⟨#[120]⟩ : ByteArray)) = P) := ⟨_, rfl⟩
    rw [HN2.out] at hp2
    have he1 : ((P1.size : Int) == 4096) = true := by rw [hp1]; rfl
    have he2 : ((P2.size : Int) == 16384) = true := by rw [hp2]; rfl
    clear hz2 hb1 hb2 hp1 hp2
    go_enter Try.func3, Try.ntmps3
    go_wp2_with fail
    refine (HP1.out _).mono ?_
    rintro e w1 ⟨rfl, g1⟩
    rw [HN1.out]
    have HR1 := Lib.hid (HR.out.kept g1 (by simp))
    have HG1 := Lib.hid (gb_none HG.out g1)
    clear g1
    go_wp2_with fail
    refine (HP2.out _).mono ?_
    rintro e w2 ⟨rfl, g2⟩
    rw [HN2.out]
    have hc1 := (HR1.out.kept g2 (by simp)).at_ (i := 3) rfl
    have hc2 := (HR1.out.kept g2 (by simp)).at_ (i := 4) rfl
    have HG2 := Lib.hid (gb_none HG1.out g2)
    clear g2
    go_wp2_with fail
    refine (awake_any _).mono ?_
    rintro e w3 ⟨rfl, rfl⟩
    go_wp2_with fail
    go_ret
    exact ⟨rfl, below_of HG2.out⟩
  · have hmk := fun W => make_zero 16383 16383 rfl (by decide) W
    have hcv : (convert 23 9 (.slice (some ⟨w.heap.size + 1, 0, none⟩) 16383 16383)).run Try.prog ((w.alloc (.cells #[.int .i64 64, .int .i64 256, .int .i64 1024, .int .i64 4096, .int .i64 16384] 3)).alloc (.cells (zc 16383) 5)) = .ok (.string (zs 16383)) ((w.alloc (.cells #[.int .i64 64, .int .i64 256, .int .i64 1024, .int .i64 4096, .int .i64 16384] 3)).alloc (.cells (zc 16383) 5)) := by
      have := text_zero 16383 (w.alloc (.cells #[.int .i64 64, .int .i64 256, .int .i64 1024, .int .i64 4096, .int .i64 16384] 3)) _ (Row.new _ 5 (zc 16383))
      simpa using this
    have hz := zs_size 16383
    obtain ⟨Z, HZ⟩ : ∃ Z, Hid (zs 16383 = Z) := ⟨_, rfl⟩
    rw [HZ.out] at hcv hz
    have HR := Lib.hid ((Row.new w 3 #[.int .i64 64, .int .i64 256, .int .i64 1024, .int .i64 4096, .int .i64 16384]).alloc (.cells (zc 16383) 5))
    have HG := Lib.hid (gb_alloc (gb_alloc (gb_refl w none) (.cells #[.int .i64 64, .int .i64 256, .int .i64 1024, .int .i64 4096, .int .i64 16384] 3)) (.cells (zc 16383) 5))
    have hb1 : bk (Z.size : Int) = 16384 := by rw [hz]; rfl
    have HP1 := Lib.hid (fun W => pad_some Z W (by rw [hb1]; decide))
    have hp1 := padB_size Z (by rw [hb1]; decide)
    rw [hb1] at hp1
    obtain ⟨P1, HN1⟩ : ∃ P, Hid (padB Z = P) := ⟨_, rfl⟩
    rw [HN1.out] at hp1
    have hz2 : (Z ++ (⟨#[120]⟩ : ByteArray)).size = 16384 := by rw [ByteArray.size_append, hz]; rfl
    have hb2 : bk ((Z ++ (⟨#[120]⟩ : ByteArray)).size : Int) = 0 := by rw [hz2]; rfl
    have HP2 := Lib.hid (fun W => pad_none (Z ++ (⟨#[120]⟩ : ByteArray)) W hb2 (by omega))
    have he1 : ((P1.size : Int) == 16384) = true := by rw [hp1]; rfl
    have B1 := Lib.hid (fun W => bucket_any 16384 W (by decide) (by decide))
    have B2 := Lib.hid (fun W => bucket_any (-1) W (by decide) (by decide))
    rw [show bk 16384 = 0 from rfl] at B1
    rw [show bk (-1) = 0 from rfl] at B2
    clear hz2 hb1 hb2 hp1
    go_enter Try.func3, Try.ntmps3
    go_wp2_with fail
    refine (HP1.out _).mono ?_
    rintro e w1 ⟨rfl, g1⟩
    rw [HN1.out]
    have HR1 := Lib.hid (HR.out.kept g1 (by simp))
    have HG1 := Lib.hid (gb_none HG.out g1)
    clear g1
    go_wp2_with fail
    refine (HP2.out _).mono ?_
    rintro e w2 ⟨rfl, rfl⟩
    go_wp2_with fail
    refine (B1.out _).mono ?_
    rintro e w3 ⟨rfl, rfl⟩
    go_wp2_with fail
    refine (B2.out _).mono ?_
    rintro e w3 ⟨rfl, rfl⟩
    go_wp2_with fail
    refine (awake_any _).mono ?_
    rintro e w3 ⟨rfl, rfl⟩
    go_wp2_with fail
    go_ret
    exact ⟨rfl, below_of HG1.out⟩

set_option maxRecDepth 100000 in
theorem lifted (os : Os) (started : os.Started) (H : Type) (enc : TypeId × Value → H) :
    ReturnsInHanded {} Try.checked os 3 .any (Rows.padEdgesSpec.pre6 enc Try.prog Try.f3 Rows.padEdgesRow.domain false) (Rows.padEdgesSpec.post enc Try.prog Try.f3 false true false false) := by
  refine returnsInHanded_of_change (C := Try.checked) own started (by kernel_rfl) Try.func3
    (ChangeSpec.witness6 (enc := enc) (C := Try.checked) false ⟨#[], #[.int .u8 0], []⟩ 8 (by kernel_rfl) (by kernel_rfl) (by kernel_rfl) (by kernel_rfl)) ?_
  intro W base args ds gs before hval0 hW hcnd _
  have hval : ∀ (j : Nat) t v, Try.f3.params[j]? = some t → args[j]? = some v → Value.okWide Try.prog W .any base t v := hval0
  have hW' := hW
  obtain ⟨p, q, hA0, hV, rfl, hfz, hnd⟩ := hW
  have hA : DataW.TrodAll enc Try.prog W 0 (fun _ => true) true Try.f3.params.toList args.toList ds p := hA0
  rw [Try.params3] at hA hval
  obtain ⟨v0, vs0, d0, ds0, p0, q0, hargs, rfl, rfl, h0, r0⟩ := trodAll_cons hA
  obtain ⟨rfl, rfl, rfl⟩ := trodAll_nil r0
  obtain rfl : args = #[v0] := by cases args; simp_all
  obtain ⟨rfl, rfl⟩ := trodVars_none hV
  obtain ⟨a0, rfl, rfl, rfl, w0⟩ := open_int Try.underlying5 (hval 0 5 v0 rfl rfl) h0
  clear hA0 hval0
  simp only [List.append_nil] at hW'
  refine (walk a0 w0 W).mono fun e W' ⟨he, hg⟩ => ?_
  subst he
  exact ⟨_, rfl, _, _, _, [], [], [], hW', (trodAll_cons_mk (shut_bool Try.underlying4 _) trodAll_mk0), (trodAll_cons_mk (shut_int Try.underlying5 w0) trodAll_mk0), rfl, hg.frame _, fun h => by cases h⟩

theorem over : Rows.padEdgesRow.holds Try.pinned (OpenSpec.ofChange Rows.padEdgesSpec) :=
  OpenClaim.holds_of_wide 3 Try.f3 rfl rfl rfl rfl rfl rfl rfl ⟨rfl, rfl, rfl, rfl, rfl⟩ rfl rfl rfl rfl rfl (by kernel_rfl) Try.func3 (by kernel_rfl)
    (of_decide_eq_true (by kernel_rfl)) (by unfold Func.isWrapper; first | (rw [if_pos (by decide +kernel)]; kernel_rfl) | (rw [if_neg (by decide +kernel)]; exact ⟨rfl, rfl⟩))
    (fun os started H enc _ => lifted os started H enc)

theorem proved : Rows.PadEdgesSaid :=
  over
#print axioms proved
end Go.Proofs.Ytlpanplebagmbaa.padEdges
