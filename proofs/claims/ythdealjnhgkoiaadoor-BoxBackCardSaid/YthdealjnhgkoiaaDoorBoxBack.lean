/-
  Proved: whatever values of its parameters' types it is called with, deaddroplaw6.BoxBack returns true, and each argument reads behind the call as it read before; the two tables of package sha being what the program's own text lays (the card ties them).
  Conditions: none but those of the card itself.
-/
import Derived.Test.YthdealjnhgkoiaaDoorCards
import Derived.Test.YthdealjnhgkoiaaDoorTie
import Derived.WalkKit
import Derived.ProofKit
import Derived.OpenShut
import Derived.ShutString
import Derived.Below
import Derived.Deep.DeepHandedRow
import Derived.Lib.LaidTab
import Derived.LaidSub
import Derived.Stop.LaidTwo
import Derived.Test.YthdealjnhgkoiaaDoorBxFour
import Derived.Test.YthdealjnhgkoiaaDoorToldT
import Derived.IntWalk
import Derived.Outline
import Derived.BigQuiet
namespace Go.Proofs.YthdealjnhgkoiaaDoor.boxBack
open Go.ChangeShapes Go.WideShapes Go.ChangeAt Go.RowKit
open Go.ChangeMaps (open_string shut_string)
open Go.Proofs.YthdealjnhgkoiaaDoor.Wd Go.Proofs.YthdealjnhgkoiaaDoor.Mm
set_option linter.unusedVariables false

theorem own : ownKnob Tryd.prog.godebug = none := by kernel_rfl
theorem laidOut : laidOutB Tryd.prog = true := by kernel_rfl

/-- WHAT THE WALK IS TOLD OF A SLICE OF INTEGERS THAT CAME IN: it is nil; or it leads to a row of 'cap' cells, the numbers 'zs' (the first 'len' are its elements, the rest its spare room), each fitting its kind. -/
def IsRow (k : IntKind) (w : World) (a : Option Addr) (len cap : Nat) (zs : List Int) : Prop :=
  (a = none ∧ len = 0 ∧ cap = 0 ∧ zs = []) ∨
  ∃ x, a = some x ∧ len ≤ cap ∧ cap ≤ maxLen ∧ zs.length = cap ∧ (∀ i, i < zs.length → w.cell? (x.add i) = some (.int k (zs.getD i 0))) ∧ ∀ n ∈ zs, (Lit.int k n).wf = true


open Bx Td
attribute [local go_sem] Td.upon_value Td.upon_skip Td.upon_enter Td.upon_row Td.look_tmp Td.look_const Td.look_func Td.look_global

def Turned (w : World) (B : Nat) (c0 c1 c2 c3 n2 n3 : Nat) (W : World) : Prop := w.grownBy W none ∧ ∃ U0 U1 U2 U3 : ByteArray, U2.size = n2 ∧ U3.size = n3 ∧ Four W B U0 U1 U2 U3 c0 c1 c2 c3
def newV (N : Nat) (t : TypeId) (cs : Array Value) : Td.Spec := fun W v => ∃ g, v = .pointer (some ⟨g, 0, none⟩) ∧ N ≤ g ∧ Row W g t cs
theorem newV_stays {N : Nat} {t : TypeId} {cs : Array Value} : Stays (fun a b => a.grownBy b none) (newV N t cs) := fun _ _ _ h ⟨g, e, hn, hr⟩ => ⟨g, e, hn, hr.kept h (by simp)⟩
attribute [local go_sem] xor8

set_option maxHeartbeats 40000000 in
set_option maxRecDepth 100000 in
theorem walk (a0 : Option Addr) (len0 cap0 : Nat) (z0 : List Int) (a1 : Option Addr) (len1 cap1 : Nat) (z1 : List Int) (a2 : ByteArray) (a3 : ByteArray) (a4 : Int) (a5 : Int) (a6 : Int) (w : World) (w0 : IsRow .u8 w a0 len0 cap0 z0) (w1 : IsRow .u8 w a1 len1 cap1 z1) (w2 : a2.size ≤ maxLen) (w3 : a3.size ≤ maxLen) (w4 : (Lit.int .u8 a4).wf = true) (w5 : (Lit.int .u16 a5).wf = true) (w6 : (Lit.int .u8 a6).wf = true) (hT : Tabs w) (hB : Bx.BErrs w) :
    Calls Tryd.prog 4 #[.slice a0 len0 cap0, .slice a1 len1 cap1, .string a2, .string a3, .int .u8 a4, .int .u16 a5, .int .u8 a6] w fun e w' => e = .returned (.bool true) ∧ Below w.heap.size w w' := by
  obtain ⟨hb0, hl0, _⟩ := Cc.holds_of_row w0
  obtain ⟨hb1, hl1, _⟩ := Cc.holds_of_row w1
  have hw4 := u8_bound w4
  have hw6 := u8_bound w6
  have hw5 : 0 ≤ a5 ∧ a5 ≤ 65535 := by
    have h1 : IntKind.u16.min = 0 := by decide
    have h2 : IntKind.u16.max = 65535 := by decide
    simp only [Lit.wf, h1, h2, Bool.and_eq_true, decide_eq_true_eq] at w5
    exact w5
  obtain ⟨hx0, hx1⟩ := hw4
  clear w0 w1 w2 w3 w4 w5 w6
  generalize Cc.bytesOf z0 len0 = b0 at *
  generalize Cc.bytesOf z1 len1 = b1 at *
  by_cases c1 : 100 < a2.size
  · have t1 : decide ((100 : Int) < (a2.size : Int)) = true := decide_eq_true (by omega)
    clear c1
    go_enter Tryd.func4, Tryd.ntmps4
    go_wp2_with fail
    refine (awake6_any _ hT hB).mono ?_
    rintro e x1 ⟨rfl, g1⟩
    go_wp2_with fail
    go_ret
    exact ⟨rfl, below_of g1⟩
  · have t1 : decide ((100 : Int) < (a2.size : Int)) = false := decide_eq_false (by omega)
    by_cases c2 : 200 < a3.size
    · have t2 : decide ((200 : Int) < (a3.size : Int)) = true := decide_eq_true (by omega)
      clear c2
      go_enter Tryd.func4, Tryd.ntmps4
      go_wp2_with fail
      refine (awake6_any _ hT hB).mono ?_
      rintro e x1 ⟨rfl, g1⟩
      go_wp2_with fail
      go_ret
      exact ⟨rfl, below_of g1⟩
    · have t2 : decide ((200 : Int) < (a3.size : Int)) = false := decide_eq_false (by omega)
      have h2 : a2.size ≤ 100 := by omega
      have h3 : a3.size ≤ 200 := by omega
      clear c1 c2
      obtain ⟨i, hi, hi4⟩ : ∃ i : Nat, a4 % 4 = (i : Int) ∧ i < 4 := ⟨(a4 % 4).toNat, by omega, by omega⟩
      have hk := bytesB_size b0 64
      have hn := bytesB_size b1 12
      obtain ⟨k, HK⟩ : ∃ k : ByteArray, Hid ((⟨(Cc.bytesS b0 64).toArray⟩ : ByteArray) = k) := ⟨_, rfl⟩
      obtain ⟨o, HN⟩ : ∃ o : ByteArray, Hid ((⟨(Cc.bytesS b1 12).toArray⟩ : ByteArray) = o) := ⟨_, rfl⟩
      rw [HK.out] at hk
      rw [HN.out] at hn
      have hsz := sealB_size k o a2 a3 hk hn (by omega)
      have hop := open_seal k o a2 a3 hk hn (by omega)
      obtain ⟨S, HS⟩ : ∃ S : ByteArray, Hid (sealB k o a2 a3 = S) := ⟨_, rfl⟩
      rw [HS.out] at hsz hop
      have hy1 : openS k o a2 S = a3 := by rw [openS, hop]; rfl
      have hy2 : (openB k o a2 S).isSome = true := by rw [hop]; rfl
      have hs9 : S.size ≤ 9223372036854775807 := by omega
      have Hs9 := Lib.hid hs9
      have Hy1 := Lib.hid hy1
      have Hy2 := Lib.hid hy2
      have Hk := Lib.hid hk
      have Hn := Lib.hid hn
      have Hsz := Lib.hid hsz
      have t3 : ((S.size : Int) != (a3.size : Int) + 16) = false := by rw [hsz]; simp
      clear hk hn hsz hop hy1 hy2 hs9
      go_enter Tryd.func4, Tryd.ntmps4
      go_wp2_with fail
      refine (Cc.bytes_any a0 len0 cap0 64 b0 _ hb0 hl0 (by decide)).mono ?_
      rintro e x1 ⟨rfl, g1⟩
      rw [HK.out]
      go_wp2_with fail
      refine (Cc.bytes_any a1 len1 cap1 12 b1 _ (hb1.keep g1) hl1 (by decide)).mono ?_
      rintro e x2 ⟨rfl, g2⟩
      rw [HN.out]
      replace g2 := gb_none g1 g2
      clear g1
      go_wp2_with fail
      refine (seal_any k o a2 a3 _ (by omega) (hT.keep g2 (by simp)) (hB.keep g2)).mono ?_
      rintro e x3 ⟨rfl, g3⟩
      rw [HS.out]
      replace g3 := gb_none g2 g3
      clear g2
      go_wp2_with fail
      refine (open_any k o a2 S _ (by omega) Hs9.out (hT.keep g3 (by simp)) (hB.keep g3)).mono ?_
      rintro e x4 ⟨rfl, g4⟩
      rw [Hy1.out, Hy2.out]
      replace g4 := gb_none g3 g4
      clear g3
      go_wp2_with fail
      refine (refSeal_any k o a2 a3 _ (by omega)).mono ?_
      rintro e x5 ⟨rfl, g5⟩
      rw [HS.out]
      replace g5 := gb_none g4 g5
      clear g4
      have hcv := fun (s : ByteArray) W => run_bytes_of_string (P := Tryd.prog) W 9 30 5 s Tryd.underlying9 Tryd.underlying30 Tryd.underlying5
      go_upto_region 9 with fail
      clear hcv
      refine named (fun W => w.grownBy W none ∧ ∃ c0 c1 c2 c3, Four W x5.heap.size k o a2 S c0 c1 c2 c3) ⟨?hg, ?hf⟩ ?_
      case hg => exact gb_drew (gb_drew (gb_drew (gb_drew (gb_alloc (gb_alloc (gb_alloc (gb_alloc (gb_alloc g5 _) _) _) _) _))))
      case hf => exact ⟨_, _, _, _, (four_new x5 k o a2 S _ _ _ _ _ _ rfl).keep (gb_drew (gb_drew (gb_drew (gb_drew (gb_refl _ _)))))⟩
      have hB5 : w.heap.size ≤ x5.heap.size := g5.size
      obtain ⟨B, hB0⟩ : ∃ B, x5.heap.size = B := ⟨_, rfl⟩
      rw [hB0] at hB5
      clear g5
      rintro W ⟨gW, c0, c1, c2, c3, hF⟩
      rw [hB0] at hF ⊢
      obtain ⟨g, T, c, hcell, hBg, hFr, hTs, hset⟩ := hF.any i hi4
      have bi : (i : Int) < 4 := by omega
      have HF := Lib.hid hF
      have Hset := Lib.hid hset
      have Hi4 := Lib.hid hi4
      have HB0 := Lib.hid hB0
      clear hF hset hi4 hB0
      by_cases h0 : T.size = 0
      · have z1 : decide ((0 : Int) < (T.size : Int)) = false := decide_eq_false (by omega)
        have z2 : decide (0 < T.size) = false := decide_eq_false (by omega)
        go_upto_region 12 with fail
        refine named (Turned w B c0 c1 c2 c3 a2.size S.size) ⟨gW, k, o, a2, S, rfl, rfl, HF.out⟩ ?_
        rintro Wx ⟨gx, U0, U1, U2, U3, hu2, hu3, hF⟩
        clear z1 z2 h0 hcell hFr hTs gW HF Hset
        have hTx := hT.keep gx (by simp)
        have hBx := hB.keep gx
        have h2' : U2.size ≤ 549755813888 := by omega
        have h2'' : U2.size ≤ 17179869184 := by omega
        have h3' : U3.size ≤ 9223372036854775807 := by rw [hu3]; exact Hs9.out
        have H2 := Lib.hid h2'
        have H22 := Lib.hid h2''
        have H3 := Lib.hid h3'
        obtain ⟨X, HX⟩ : ∃ X : ByteArray, Hid (openS U0 U1 U2 U3 = X) := ⟨_, rfl⟩
        obtain ⟨Y, HY⟩ : ∃ Y : Bool, Hid ((openB U0 U1 U2 U3).isSome = Y) := ⟨_, rfl⟩
        have HF := Lib.hid hF
        clear h2' h2'' h3' hu2 hu3
        apply wp_region_told (le := fun a b => a.grownBy b none) [isV _, isV _, isV _, isV _, isV _, isV _, isV _, isV _, isV _, isV _, isV _, isV _, isV _, isV _, isV _, isV _, isV _, isV _, isV _, isV _, isV _, isV _]
        case hn => rfl
        case hm => kernel_rfl
        case hB => kernel_rfl
        case ht => exact fun _ _ _ h k => gb_none h k
        case hw => exact gb_drew (gb_refl _ _)
        -- 0: law.go:43 move
        apply told_is
        · intro W f hW hE h0 K hK
          have e20 := h0 20 (by kernel_rfl)
          conv at e20 => rhs; whnf
          clear hE h0
          refine yes_of (want_free rfl) ?_
          go_simp; exact hK _ _ (gb_refl _ _) rfl
        -- 1: law.go:43 indexAddr
        apply told_is
        · intro W f hW hE h0 K hK
          have e104 : f 104 = _ := hE 0 104 _ rfl (by kernel_rfl)
          clear hE h0
          refine yes_of (want_free rfl) ?_
          go_simp; exact hK _ _ (gb_refl _ _) rfl
        -- 2: law.go:43 load
        apply told_is
        · intro W f hW hE h0 K hK
          have e105 : f 105 = _ := hE 0 105 _ rfl (by kernel_rfl)
          clear hE h0
          refine yes_of (want_free rfl) ?_
          have hc := (hF.keep hW).l0
          go_simp; exact hK _ _ (gb_refl _ _) rfl
        -- 3: law.go:43 convert
        apply told_is
        · intro W f hW hE h0 K hK
          have e106 : f 106 = _ := hE 0 106 _ rfl (by kernel_rfl)
          clear hE h0
          refine yes_of (want_free rfl) ?_
          have hc := (hF.keep hW).f0.text c0
          go_simp; exact hK _ _ (gb_refl _ _) rfl
        -- 4: law.go:43 move
        apply told_is
        · intro W f hW hE h0 K hK
          have e20 := h0 20 (by kernel_rfl)
          conv at e20 => rhs; whnf
          clear hE h0
          refine yes_of (want_free rfl) ?_
          go_simp; exact hK _ _ (gb_refl _ _) rfl
        -- 5: law.go:43 indexAddr
        apply told_is
        · intro W f hW hE h0 K hK
          have e108 : f 108 = _ := hE 0 108 _ rfl (by kernel_rfl)
          clear hE h0
          refine yes_of (want_free rfl) ?_
          go_simp; exact hK _ _ (gb_refl _ _) rfl
        -- 6: law.go:43 load
        apply told_is
        · intro W f hW hE h0 K hK
          have e109 : f 109 = _ := hE 0 109 _ rfl (by kernel_rfl)
          clear hE h0
          refine yes_of (want_free rfl) ?_
          have hc := (hF.keep hW).l1
          go_simp; exact hK _ _ (gb_refl _ _) rfl
        -- 7: law.go:43 convert
        apply told_is
        · intro W f hW hE h0 K hK
          have e110 : f 110 = _ := hE 0 110 _ rfl (by kernel_rfl)
          clear hE h0
          refine yes_of (want_free rfl) ?_
          have hc := (hF.keep hW).f1.text c1
          go_simp; exact hK _ _ (gb_refl _ _) rfl
        -- 8: law.go:43 move
        apply told_is
        · intro W f hW hE h0 K hK
          have e20 := h0 20 (by kernel_rfl)
          conv at e20 => rhs; whnf
          clear hE h0
          refine yes_of (want_free rfl) ?_
          go_simp; exact hK _ _ (gb_refl _ _) rfl
        -- 9: law.go:43 indexAddr
        apply told_is
        · intro W f hW hE h0 K hK
          have e112 : f 112 = _ := hE 0 112 _ rfl (by kernel_rfl)
          clear hE h0
          refine yes_of (want_free rfl) ?_
          go_simp; exact hK _ _ (gb_refl _ _) rfl
        -- 10: law.go:43 load
        apply told_is
        · intro W f hW hE h0 K hK
          have e113 : f 113 = _ := hE 0 113 _ rfl (by kernel_rfl)
          clear hE h0
          refine yes_of (want_free rfl) ?_
          have hc := (hF.keep hW).l2
          go_simp; exact hK _ _ (gb_refl _ _) rfl
        -- 11: law.go:43 convert
        apply told_is
        · intro W f hW hE h0 K hK
          have e114 : f 114 = _ := hE 0 114 _ rfl (by kernel_rfl)
          clear hE h0
          refine yes_of (want_free rfl) ?_
          have hc := (hF.keep hW).f2.text c2
          go_simp; exact hK _ _ (gb_refl _ _) rfl
        -- 12: law.go:43 move
        apply told_is
        · intro W f hW hE h0 K hK
          have e20 := h0 20 (by kernel_rfl)
          conv at e20 => rhs; whnf
          clear hE h0
          refine yes_of (want_free rfl) ?_
          go_simp; exact hK _ _ (gb_refl _ _) rfl
        -- 13: law.go:43 indexAddr
        apply told_is
        · intro W f hW hE h0 K hK
          have e116 : f 116 = _ := hE 0 116 _ rfl (by kernel_rfl)
          clear hE h0
          refine yes_of (want_free rfl) ?_
          go_simp; exact hK _ _ (gb_refl _ _) rfl
        -- 14: law.go:43 load
        apply told_is
        · intro W f hW hE h0 K hK
          have e117 : f 117 = _ := hE 0 117 _ rfl (by kernel_rfl)
          clear hE h0
          refine yes_of (want_free rfl) ?_
          have hc := (hF.keep hW).l3
          go_simp; exact hK _ _ (gb_refl _ _) rfl
        -- 15: law.go:43 convert
        apply told_is
        · intro W f hW hE h0 K hK
          have e118 : f 118 = _ := hE 0 118 _ rfl (by kernel_rfl)
          clear hE h0
          refine yes_of (want_free rfl) ?_
          have hc := (hF.keep hW).f3.text c3
          go_simp; exact hK _ _ (gb_refl _ _) rfl
        -- 16: law.go:43 call
        apply told_is
        · intro W f hW hE h0 K hK
          have e107 : f 107 = _ := hE 12 107 _ rfl (by kernel_rfl)
          have e111 : f 111 = _ := hE 8 111 _ rfl (by kernel_rfl)
          have e115 : f 115 = _ := hE 4 115 _ rfl (by kernel_rfl)
          have e119 : f 119 = _ := hE 0 119 _ rfl (by kernel_rfl)
          clear hE h0
          refine yes_of (want_free rfl) ?_
          go_simp
          refine (open_any U0 U1 U2 U3 _ H2.out H3.out (hTx.keep hW (by simp)) (hBx.keep hW)).mono ?_
          rintro e w1 ⟨rfl, g⟩
          rw [HX.out, HY.out]
          exact ⟨_, rfl, hK _ _ g rfl⟩
        -- 17: law.go:43 move
        apply told_is
        · intro W f hW hE h0 K hK
          have e120 : f 120 = _ := hE 0 120 _ rfl (by kernel_rfl)
          clear hE h0
          refine yes_of (want_free rfl) ?_
          go_simp; exact hK _ _ (gb_refl _ _) rfl
        -- 18: law.go:43 extract
        apply told_is
        · intro W f hW hE h0 K hK
          have e103 : f 103 = _ := hE 0 103 _ rfl (by kernel_rfl)
          clear hE h0
          refine yes_of (want_free rfl) ?_
          go_simp; exact hK _ _ (gb_refl _ _) rfl
        -- 19: law.go:43 extract
        apply told_is
        · intro W f hW hE h0 K hK
          have e103 : f 103 = _ := hE 1 103 _ rfl (by kernel_rfl)
          clear hE h0
          refine yes_of (want_free rfl) ?_
          go_simp; exact hK _ _ (gb_refl _ _) rfl
        -- 20: law.go:43 assign
        apply told_is
        · intro W f hW hE h0 K hK
          have e121 : f 121 = _ := hE 1 121 _ rfl (by kernel_rfl)
          clear hE h0
          refine yes_of (want_free rfl) ?_
          go_simp; exact hK _ _ (gb_refl _ _) rfl
        -- 21: law.go:43 assign
        apply told_is
        · intro W f hW hE h0 K hK
          have e122 : f 122 = _ := hE 1 122 _ rfl (by kernel_rfl)
          clear hE h0
          refine yes_of (want_free rfl) ?_
          go_simp; exact hK _ _ (gb_refl _ _) rfl
        intro W f hW hA
        simp only [lexIn, Act.put, List.setIfInBounds_toArray, List.set_cons_zero, List.set_cons_succ]
        have e22 : f 22 = _ := hA 1 (some 22) _ rfl
        rw [e22]
        have e23 : f 23 = _ := hA 0 (some 23) _ rfl
        rw [e23]
        clear hA
        have g3 := gb_none gx hW
        have hF3 := HF.out.keep hW
        clear hF HF hW hTx hBx gx
        clear e22 e23
        have HF4 := Lib.hid hF3
        have G3 := Lib.hid g3
        clear hF3 g3
        go_upto_region 13 with fail
        apply wp_region_told_tail (le := fun a b => a.grownBy b none) 18 _ [isV _, isV _, isV _, isV _, isV _, isV _, isV _, isV _, isV _, isV _, isV _, isV _, isV _, isV _, isV _, isV _, isV _, newV _ 26 #[.string ⟨#[]⟩, .bool false]]
        case hL => rfl
        case hz => rfl
        case hLd => rfl
        case hLg => rfl
        case hLw => kernel_rfl
        case hlen => rfl
        case hn => rfl
        case hm => kernel_rfl
        case hB => kernel_rfl
        case ht => exact fun _ _ _ h k => gb_none h k
        case hw => exact gb_drew (gb_refl _ _)
        -- 0: law.go:44 move
        apply told_is
        · intro W f hW hE h0 K hK
          have e20 := h0 20 (by kernel_rfl)
          conv at e20 => rhs; whnf
          clear hE h0
          refine yes_of (want_free rfl) ?_
          go_simp; exact hK _ _ (gb_refl _ _) rfl
        -- 1: law.go:44 indexAddr
        apply told_is
        · intro W f hW hE h0 K hK
          have e123 : f 123 = _ := hE 0 123 _ rfl (by kernel_rfl)
          clear hE h0
          refine yes_of (want_free rfl) ?_
          go_simp; exact hK _ _ (gb_refl _ _) rfl
        -- 2: law.go:44 load
        apply told_is
        · intro W f hW hE h0 K hK
          have e124 : f 124 = _ := hE 0 124 _ rfl (by kernel_rfl)
          clear hE h0
          refine yes_of (want_free rfl) ?_
          have hc := (HF4.out.keep hW).l0
          go_simp; exact hK _ _ (gb_refl _ _) rfl
        -- 3: law.go:44 convert
        apply told_is
        · intro W f hW hE h0 K hK
          have e125 : f 125 = _ := hE 0 125 _ rfl (by kernel_rfl)
          clear hE h0
          refine yes_of (want_free rfl) ?_
          have hc := (HF4.out.keep hW).f0.text c0
          go_simp; exact hK _ _ (gb_refl _ _) rfl
        -- 4: law.go:44 move
        apply told_is
        · intro W f hW hE h0 K hK
          have e20 := h0 20 (by kernel_rfl)
          conv at e20 => rhs; whnf
          clear hE h0
          refine yes_of (want_free rfl) ?_
          go_simp; exact hK _ _ (gb_refl _ _) rfl
        -- 5: law.go:44 indexAddr
        apply told_is
        · intro W f hW hE h0 K hK
          have e127 : f 127 = _ := hE 0 127 _ rfl (by kernel_rfl)
          clear hE h0
          refine yes_of (want_free rfl) ?_
          go_simp; exact hK _ _ (gb_refl _ _) rfl
        -- 6: law.go:44 load
        apply told_is
        · intro W f hW hE h0 K hK
          have e128 : f 128 = _ := hE 0 128 _ rfl (by kernel_rfl)
          clear hE h0
          refine yes_of (want_free rfl) ?_
          have hc := (HF4.out.keep hW).l1
          go_simp; exact hK _ _ (gb_refl _ _) rfl
        -- 7: law.go:44 convert
        apply told_is
        · intro W f hW hE h0 K hK
          have e129 : f 129 = _ := hE 0 129 _ rfl (by kernel_rfl)
          clear hE h0
          refine yes_of (want_free rfl) ?_
          have hc := (HF4.out.keep hW).f1.text c1
          go_simp; exact hK _ _ (gb_refl _ _) rfl
        -- 8: law.go:44 move
        apply told_is
        · intro W f hW hE h0 K hK
          have e20 := h0 20 (by kernel_rfl)
          conv at e20 => rhs; whnf
          clear hE h0
          refine yes_of (want_free rfl) ?_
          go_simp; exact hK _ _ (gb_refl _ _) rfl
        -- 9: law.go:44 indexAddr
        apply told_is
        · intro W f hW hE h0 K hK
          have e131 : f 131 = _ := hE 0 131 _ rfl (by kernel_rfl)
          clear hE h0
          refine yes_of (want_free rfl) ?_
          go_simp; exact hK _ _ (gb_refl _ _) rfl
        -- 10: law.go:44 load
        apply told_is
        · intro W f hW hE h0 K hK
          have e132 : f 132 = _ := hE 0 132 _ rfl (by kernel_rfl)
          clear hE h0
          refine yes_of (want_free rfl) ?_
          have hc := (HF4.out.keep hW).l2
          go_simp; exact hK _ _ (gb_refl _ _) rfl
        -- 11: law.go:44 convert
        apply told_is
        · intro W f hW hE h0 K hK
          have e133 : f 133 = _ := hE 0 133 _ rfl (by kernel_rfl)
          clear hE h0
          refine yes_of (want_free rfl) ?_
          have hc := (HF4.out.keep hW).f2.text c2
          go_simp; exact hK _ _ (gb_refl _ _) rfl
        -- 12: law.go:44 move
        apply told_is
        · intro W f hW hE h0 K hK
          have e20 := h0 20 (by kernel_rfl)
          conv at e20 => rhs; whnf
          clear hE h0
          refine yes_of (want_free rfl) ?_
          go_simp; exact hK _ _ (gb_refl _ _) rfl
        -- 13: law.go:44 indexAddr
        apply told_is
        · intro W f hW hE h0 K hK
          have e135 : f 135 = _ := hE 0 135 _ rfl (by kernel_rfl)
          clear hE h0
          refine yes_of (want_free rfl) ?_
          go_simp; exact hK _ _ (gb_refl _ _) rfl
        -- 14: law.go:44 load
        apply told_is
        · intro W f hW hE h0 K hK
          have e136 : f 136 = _ := hE 0 136 _ rfl (by kernel_rfl)
          clear hE h0
          refine yes_of (want_free rfl) ?_
          have hc := (HF4.out.keep hW).l3
          go_simp; exact hK _ _ (gb_refl _ _) rfl
        -- 15: law.go:44 convert
        apply told_is
        · intro W f hW hE h0 K hK
          have e137 : f 137 = _ := hE 0 137 _ rfl (by kernel_rfl)
          clear hE h0
          refine yes_of (want_free rfl) ?_
          have hc := (HF4.out.keep hW).f3.text c3
          go_simp; exact hK _ _ (gb_refl _ _) rfl
        -- 16: law.go:44 call
        apply told_is
        · intro W f hW hE h0 K hK
          have e126 : f 126 = _ := hE 12 126 _ rfl (by kernel_rfl)
          have e130 : f 130 = _ := hE 8 130 _ rfl (by kernel_rfl)
          have e134 : f 134 = _ := hE 4 134 _ rfl (by kernel_rfl)
          have e138 : f 138 = _ := hE 0 138 _ rfl (by kernel_rfl)
          clear hE h0
          refine yes_of (want_free rfl) ?_
          go_simp
          refine (refOpen_any U0 U1 U2 U3 _ H22.out H3.out).mono ?_
          rintro e w1 ⟨rfl, g⟩
          rw [HX.out, HY.out]
          exact ⟨_, rfl, hK _ _ g rfl⟩
        -- 17: law.go:44 alloc
        apply told_at newV_stays
        · intro W f hW hE h0 K hK
          clear hE h0
          refine yes_of (want_free rfl) ?_
          go_simp
          exact hK _ _ (gb_alloc (gb_refl _ _) _) ⟨_, rfl, hW.size, Row.new _ _ _⟩
        intro W f hW hA
        simp only [lexIn, Act.put, List.setIfInBounds_toArray, List.set_cons_zero, List.set_cons_succ]
        have e139 : f 139 = _ := hA 1 (some 139) _ rfl
        rw [e139]
        have e24 := hA 0 (some 24) _ rfl
        clear hA
        obtain ⟨gq, eq_, hgN, hr⟩ := e24
        rw [eq_]
        have q0 := hr.at_ (i := 0) rfl
        have q1 := hr.at_ (i := 1) rfl
        have q2 := hr.free 0
        have q3 := hr.free 1
        have hrs := (hr.set_ 0 (.string X)).set_ 1 (.bool Y)
        have q4 := hrs.at_ (i := 0) rfl
        have q5 := hrs.at_ (i := 1) rfl
        have hwg := Nat.le_trans G3.out.size hgN
        have gw := gb_new (gb_new (gb_none G3.out hW) (gb_set1 _ gq 0 (.string X)) hwg) (gb_set1 _ gq 1 (.bool Y)) hwg
        have Gw := Lib.hid gw
        have Q4 := Lib.hid q4
        have Q5 := Lib.hid q5
        clear e139 hrs q4 q5 gw hwg hgN
        rw [ends_is]
        go_simp
        have q4 := Q4.out
        have q5 := Q5.out
        clear q0 q1 q2 q3 hr hW
        cases Y <;>
        (go_wp2_with fail
         refine (awake6_any _ (hT.keep Gw.out (by simp)) (hB.keep Gw.out)).mono ?_
         rintro e z1 ⟨rfl, gz⟩
         go_wp2_with fail
         go_ret
         exact ⟨rfl, below_of (gb_none Gw.out gz)⟩)
      · have z1 : decide ((0 : Int) < (T.size : Int)) = true := decide_eq_true (by omega)
        have z2 : decide (0 < T.size) = true := decide_eq_true (by omega)
        have hne : (T.size : Int) ≠ 0 := by omega
        obtain ⟨j, hj, hjT⟩ : ∃ j : Nat, a5 % (T.size : Int) = (j : Int) ∧ j < T.size := ⟨(a5 % (T.size : Int)).toNat, by
          have := Int.emod_nonneg a5 hne
          omega, by
          have h1 := Int.emod_nonneg a5 hne
          have h2 := Int.emod_lt_of_pos a5 (show 0 < (T.size : Int) by omega)
          omega⟩
        have bj : (j : Int) < (T.size : Int) := by omega
        have hc := hFr.at_ hjT
        have hfz := hFr.free hjT
        obtain ⟨m, rfl⟩ : ∃ m : UInt8, a6 = (m.toNat : Int) := ⟨UInt8.ofNat a6.toNat, by rw [UInt8.toNat_ofNat']; have := hw6.1; have := hw6.2; omega⟩
        obtain ⟨y, hy⟩ : ∃ y : UInt8, T.data.toList.getD j 0 = y := ⟨_, rfl⟩
        rw [hy] at hc
        have hs := Hset.out j (y ^^^ m)
        rw [UInt8.toNat_xor] at hs
        have Hs := Lib.hid hs
        have gs := gb_new gW (gb_set1 W g j (.int .u8 ((y.toNat ^^^ m.toNat : Nat) : Int))) (by omega)
        clear hs hy
        have Gs := Lib.hid gs
        clear gs hTs
        go_upto_region 12 with fail
        refine named (Turned w B c0 c1 c2 c3 a2.size S.size) ?hq ?_
        case hq =>
          obtain ⟨U0, U1, U2, U3, hu2, hu3, hF⟩ := Hs.out
          exact ⟨Gs.out, U0, U1, U2, U3, hu2, hu3, hF⟩
        rintro Wx ⟨gx, U0, U1, U2, U3, hu2, hu3, hF⟩
        clear z1 z2 h0 hcell hFr gW HF Hset hc hfz hj bj hne Hs Gs
        have hTx := hT.keep gx (by simp)
        have hBx := hB.keep gx
        have h2' : U2.size ≤ 549755813888 := by omega
        have h2'' : U2.size ≤ 17179869184 := by omega
        have h3' : U3.size ≤ 9223372036854775807 := by rw [hu3]; exact Hs9.out
        have H2 := Lib.hid h2'
        have H22 := Lib.hid h2''
        have H3 := Lib.hid h3'
        obtain ⟨X, HX⟩ : ∃ X : ByteArray, Hid (openS U0 U1 U2 U3 = X) := ⟨_, rfl⟩
        obtain ⟨Y, HY⟩ : ∃ Y : Bool, Hid ((openB U0 U1 U2 U3).isSome = Y) := ⟨_, rfl⟩
        have HF := Lib.hid hF
        clear h2' h2'' h3' hu2 hu3
        apply wp_region_told (le := fun a b => a.grownBy b none) [isV _, isV _, isV _, isV _, isV _, isV _, isV _, isV _, isV _, isV _, isV _, isV _, isV _, isV _, isV _, isV _, isV _, isV _, isV _, isV _, isV _, isV _]
        case hn => rfl
        case hm => kernel_rfl
        case hB => kernel_rfl
        case ht => exact fun _ _ _ h k => gb_none h k
        case hw => exact gb_drew (gb_refl _ _)
        -- 0: law.go:43 move
        apply told_is
        · intro W f hW hE h0 K hK
          have e20 := h0 20 (by kernel_rfl)
          conv at e20 => rhs; whnf
          clear hE h0
          refine yes_of (want_free rfl) ?_
          go_simp; exact hK _ _ (gb_refl _ _) rfl
        -- 1: law.go:43 indexAddr
        apply told_is
        · intro W f hW hE h0 K hK
          have e104 : f 104 = _ := hE 0 104 _ rfl (by kernel_rfl)
          clear hE h0
          refine yes_of (want_free rfl) ?_
          go_simp; exact hK _ _ (gb_refl _ _) rfl
        -- 2: law.go:43 load
        apply told_is
        · intro W f hW hE h0 K hK
          have e105 : f 105 = _ := hE 0 105 _ rfl (by kernel_rfl)
          clear hE h0
          refine yes_of (want_free rfl) ?_
          have hc := (hF.keep hW).l0
          go_simp; exact hK _ _ (gb_refl _ _) rfl
        -- 3: law.go:43 convert
        apply told_is
        · intro W f hW hE h0 K hK
          have e106 : f 106 = _ := hE 0 106 _ rfl (by kernel_rfl)
          clear hE h0
          refine yes_of (want_free rfl) ?_
          have hc := (hF.keep hW).f0.text c0
          go_simp; exact hK _ _ (gb_refl _ _) rfl
        -- 4: law.go:43 move
        apply told_is
        · intro W f hW hE h0 K hK
          have e20 := h0 20 (by kernel_rfl)
          conv at e20 => rhs; whnf
          clear hE h0
          refine yes_of (want_free rfl) ?_
          go_simp; exact hK _ _ (gb_refl _ _) rfl
        -- 5: law.go:43 indexAddr
        apply told_is
        · intro W f hW hE h0 K hK
          have e108 : f 108 = _ := hE 0 108 _ rfl (by kernel_rfl)
          clear hE h0
          refine yes_of (want_free rfl) ?_
          go_simp; exact hK _ _ (gb_refl _ _) rfl
        -- 6: law.go:43 load
        apply told_is
        · intro W f hW hE h0 K hK
          have e109 : f 109 = _ := hE 0 109 _ rfl (by kernel_rfl)
          clear hE h0
          refine yes_of (want_free rfl) ?_
          have hc := (hF.keep hW).l1
          go_simp; exact hK _ _ (gb_refl _ _) rfl
        -- 7: law.go:43 convert
        apply told_is
        · intro W f hW hE h0 K hK
          have e110 : f 110 = _ := hE 0 110 _ rfl (by kernel_rfl)
          clear hE h0
          refine yes_of (want_free rfl) ?_
          have hc := (hF.keep hW).f1.text c1
          go_simp; exact hK _ _ (gb_refl _ _) rfl
        -- 8: law.go:43 move
        apply told_is
        · intro W f hW hE h0 K hK
          have e20 := h0 20 (by kernel_rfl)
          conv at e20 => rhs; whnf
          clear hE h0
          refine yes_of (want_free rfl) ?_
          go_simp; exact hK _ _ (gb_refl _ _) rfl
        -- 9: law.go:43 indexAddr
        apply told_is
        · intro W f hW hE h0 K hK
          have e112 : f 112 = _ := hE 0 112 _ rfl (by kernel_rfl)
          clear hE h0
          refine yes_of (want_free rfl) ?_
          go_simp; exact hK _ _ (gb_refl _ _) rfl
        -- 10: law.go:43 load
        apply told_is
        · intro W f hW hE h0 K hK
          have e113 : f 113 = _ := hE 0 113 _ rfl (by kernel_rfl)
          clear hE h0
          refine yes_of (want_free rfl) ?_
          have hc := (hF.keep hW).l2
          go_simp; exact hK _ _ (gb_refl _ _) rfl
        -- 11: law.go:43 convert
        apply told_is
        · intro W f hW hE h0 K hK
          have e114 : f 114 = _ := hE 0 114 _ rfl (by kernel_rfl)
          clear hE h0
          refine yes_of (want_free rfl) ?_
          have hc := (hF.keep hW).f2.text c2
          go_simp; exact hK _ _ (gb_refl _ _) rfl
        -- 12: law.go:43 move
        apply told_is
        · intro W f hW hE h0 K hK
          have e20 := h0 20 (by kernel_rfl)
          conv at e20 => rhs; whnf
          clear hE h0
          refine yes_of (want_free rfl) ?_
          go_simp; exact hK _ _ (gb_refl _ _) rfl
        -- 13: law.go:43 indexAddr
        apply told_is
        · intro W f hW hE h0 K hK
          have e116 : f 116 = _ := hE 0 116 _ rfl (by kernel_rfl)
          clear hE h0
          refine yes_of (want_free rfl) ?_
          go_simp; exact hK _ _ (gb_refl _ _) rfl
        -- 14: law.go:43 load
        apply told_is
        · intro W f hW hE h0 K hK
          have e117 : f 117 = _ := hE 0 117 _ rfl (by kernel_rfl)
          clear hE h0
          refine yes_of (want_free rfl) ?_
          have hc := (hF.keep hW).l3
          go_simp; exact hK _ _ (gb_refl _ _) rfl
        -- 15: law.go:43 convert
        apply told_is
        · intro W f hW hE h0 K hK
          have e118 : f 118 = _ := hE 0 118 _ rfl (by kernel_rfl)
          clear hE h0
          refine yes_of (want_free rfl) ?_
          have hc := (hF.keep hW).f3.text c3
          go_simp; exact hK _ _ (gb_refl _ _) rfl
        -- 16: law.go:43 call
        apply told_is
        · intro W f hW hE h0 K hK
          have e107 : f 107 = _ := hE 12 107 _ rfl (by kernel_rfl)
          have e111 : f 111 = _ := hE 8 111 _ rfl (by kernel_rfl)
          have e115 : f 115 = _ := hE 4 115 _ rfl (by kernel_rfl)
          have e119 : f 119 = _ := hE 0 119 _ rfl (by kernel_rfl)
          clear hE h0
          refine yes_of (want_free rfl) ?_
          go_simp
          refine (open_any U0 U1 U2 U3 _ H2.out H3.out (hTx.keep hW (by simp)) (hBx.keep hW)).mono ?_
          rintro e w1 ⟨rfl, g⟩
          rw [HX.out, HY.out]
          exact ⟨_, rfl, hK _ _ g rfl⟩
        -- 17: law.go:43 move
        apply told_is
        · intro W f hW hE h0 K hK
          have e120 : f 120 = _ := hE 0 120 _ rfl (by kernel_rfl)
          clear hE h0
          refine yes_of (want_free rfl) ?_
          go_simp; exact hK _ _ (gb_refl _ _) rfl
        -- 18: law.go:43 extract
        apply told_is
        · intro W f hW hE h0 K hK
          have e103 : f 103 = _ := hE 0 103 _ rfl (by kernel_rfl)
          clear hE h0
          refine yes_of (want_free rfl) ?_
          go_simp; exact hK _ _ (gb_refl _ _) rfl
        -- 19: law.go:43 extract
        apply told_is
        · intro W f hW hE h0 K hK
          have e103 : f 103 = _ := hE 1 103 _ rfl (by kernel_rfl)
          clear hE h0
          refine yes_of (want_free rfl) ?_
          go_simp; exact hK _ _ (gb_refl _ _) rfl
        -- 20: law.go:43 assign
        apply told_is
        · intro W f hW hE h0 K hK
          have e121 : f 121 = _ := hE 1 121 _ rfl (by kernel_rfl)
          clear hE h0
          refine yes_of (want_free rfl) ?_
          go_simp; exact hK _ _ (gb_refl _ _) rfl
        -- 21: law.go:43 assign
        apply told_is
        · intro W f hW hE h0 K hK
          have e122 : f 122 = _ := hE 1 122 _ rfl (by kernel_rfl)
          clear hE h0
          refine yes_of (want_free rfl) ?_
          go_simp; exact hK _ _ (gb_refl _ _) rfl
        intro W f hW hA
        simp only [lexIn, Act.put, List.setIfInBounds_toArray, List.set_cons_zero, List.set_cons_succ]
        have e22 : f 22 = _ := hA 1 (some 22) _ rfl
        rw [e22]
        have e23 : f 23 = _ := hA 0 (some 23) _ rfl
        rw [e23]
        clear hA
        have g3 := gb_none gx hW
        have hF3 := HF.out.keep hW
        clear hF HF hW hTx hBx gx
        clear e22 e23
        have HF4 := Lib.hid hF3
        have G3 := Lib.hid g3
        clear hF3 g3
        go_upto_region 13 with fail
        apply wp_region_told_tail (le := fun a b => a.grownBy b none) 18 _ [isV _, isV _, isV _, isV _, isV _, isV _, isV _, isV _, isV _, isV _, isV _, isV _, isV _, isV _, isV _, isV _, isV _, newV _ 26 #[.string ⟨#[]⟩, .bool false]]
        case hL => rfl
        case hz => rfl
        case hLd => rfl
        case hLg => rfl
        case hLw => kernel_rfl
        case hlen => rfl
        case hn => rfl
        case hm => kernel_rfl
        case hB => kernel_rfl
        case ht => exact fun _ _ _ h k => gb_none h k
        case hw => exact gb_drew (gb_refl _ _)
        -- 0: law.go:44 move
        apply told_is
        · intro W f hW hE h0 K hK
          have e20 := h0 20 (by kernel_rfl)
          conv at e20 => rhs; whnf
          clear hE h0
          refine yes_of (want_free rfl) ?_
          go_simp; exact hK _ _ (gb_refl _ _) rfl
        -- 1: law.go:44 indexAddr
        apply told_is
        · intro W f hW hE h0 K hK
          have e123 : f 123 = _ := hE 0 123 _ rfl (by kernel_rfl)
          clear hE h0
          refine yes_of (want_free rfl) ?_
          go_simp; exact hK _ _ (gb_refl _ _) rfl
        -- 2: law.go:44 load
        apply told_is
        · intro W f hW hE h0 K hK
          have e124 : f 124 = _ := hE 0 124 _ rfl (by kernel_rfl)
          clear hE h0
          refine yes_of (want_free rfl) ?_
          have hc := (HF4.out.keep hW).l0
          go_simp; exact hK _ _ (gb_refl _ _) rfl
        -- 3: law.go:44 convert
        apply told_is
        · intro W f hW hE h0 K hK
          have e125 : f 125 = _ := hE 0 125 _ rfl (by kernel_rfl)
          clear hE h0
          refine yes_of (want_free rfl) ?_
          have hc := (HF4.out.keep hW).f0.text c0
          go_simp; exact hK _ _ (gb_refl _ _) rfl
        -- 4: law.go:44 move
        apply told_is
        · intro W f hW hE h0 K hK
          have e20 := h0 20 (by kernel_rfl)
          conv at e20 => rhs; whnf
          clear hE h0
          refine yes_of (want_free rfl) ?_
          go_simp; exact hK _ _ (gb_refl _ _) rfl
        -- 5: law.go:44 indexAddr
        apply told_is
        · intro W f hW hE h0 K hK
          have e127 : f 127 = _ := hE 0 127 _ rfl (by kernel_rfl)
          clear hE h0
          refine yes_of (want_free rfl) ?_
          go_simp; exact hK _ _ (gb_refl _ _) rfl
        -- 6: law.go:44 load
        apply told_is
        · intro W f hW hE h0 K hK
          have e128 : f 128 = _ := hE 0 128 _ rfl (by kernel_rfl)
          clear hE h0
          refine yes_of (want_free rfl) ?_
          have hc := (HF4.out.keep hW).l1
          go_simp; exact hK _ _ (gb_refl _ _) rfl
        -- 7: law.go:44 convert
        apply told_is
        · intro W f hW hE h0 K hK
          have e129 : f 129 = _ := hE 0 129 _ rfl (by kernel_rfl)
          clear hE h0
          refine yes_of (want_free rfl) ?_
          have hc := (HF4.out.keep hW).f1.text c1
          go_simp; exact hK _ _ (gb_refl _ _) rfl
        -- 8: law.go:44 move
        apply told_is
        · intro W f hW hE h0 K hK
          have e20 := h0 20 (by kernel_rfl)
          conv at e20 => rhs; whnf
          clear hE h0
          refine yes_of (want_free rfl) ?_
          go_simp; exact hK _ _ (gb_refl _ _) rfl
        -- 9: law.go:44 indexAddr
        apply told_is
        · intro W f hW hE h0 K hK
          have e131 : f 131 = _ := hE 0 131 _ rfl (by kernel_rfl)
          clear hE h0
          refine yes_of (want_free rfl) ?_
          go_simp; exact hK _ _ (gb_refl _ _) rfl
        -- 10: law.go:44 load
        apply told_is
        · intro W f hW hE h0 K hK
          have e132 : f 132 = _ := hE 0 132 _ rfl (by kernel_rfl)
          clear hE h0
          refine yes_of (want_free rfl) ?_
          have hc := (HF4.out.keep hW).l2
          go_simp; exact hK _ _ (gb_refl _ _) rfl
        -- 11: law.go:44 convert
        apply told_is
        · intro W f hW hE h0 K hK
          have e133 : f 133 = _ := hE 0 133 _ rfl (by kernel_rfl)
          clear hE h0
          refine yes_of (want_free rfl) ?_
          have hc := (HF4.out.keep hW).f2.text c2
          go_simp; exact hK _ _ (gb_refl _ _) rfl
        -- 12: law.go:44 move
        apply told_is
        · intro W f hW hE h0 K hK
          have e20 := h0 20 (by kernel_rfl)
          conv at e20 => rhs; whnf
          clear hE h0
          refine yes_of (want_free rfl) ?_
          go_simp; exact hK _ _ (gb_refl _ _) rfl
        -- 13: law.go:44 indexAddr
        apply told_is
        · intro W f hW hE h0 K hK
          have e135 : f 135 = _ := hE 0 135 _ rfl (by kernel_rfl)
          clear hE h0
          refine yes_of (want_free rfl) ?_
          go_simp; exact hK _ _ (gb_refl _ _) rfl
        -- 14: law.go:44 load
        apply told_is
        · intro W f hW hE h0 K hK
          have e136 : f 136 = _ := hE 0 136 _ rfl (by kernel_rfl)
          clear hE h0
          refine yes_of (want_free rfl) ?_
          have hc := (HF4.out.keep hW).l3
          go_simp; exact hK _ _ (gb_refl _ _) rfl
        -- 15: law.go:44 convert
        apply told_is
        · intro W f hW hE h0 K hK
          have e137 : f 137 = _ := hE 0 137 _ rfl (by kernel_rfl)
          clear hE h0
          refine yes_of (want_free rfl) ?_
          have hc := (HF4.out.keep hW).f3.text c3
          go_simp; exact hK _ _ (gb_refl _ _) rfl
        -- 16: law.go:44 call
        apply told_is
        · intro W f hW hE h0 K hK
          have e126 : f 126 = _ := hE 12 126 _ rfl (by kernel_rfl)
          have e130 : f 130 = _ := hE 8 130 _ rfl (by kernel_rfl)
          have e134 : f 134 = _ := hE 4 134 _ rfl (by kernel_rfl)
          have e138 : f 138 = _ := hE 0 138 _ rfl (by kernel_rfl)
          clear hE h0
          refine yes_of (want_free rfl) ?_
          go_simp
          refine (refOpen_any U0 U1 U2 U3 _ H22.out H3.out).mono ?_
          rintro e w1 ⟨rfl, g⟩
          rw [HX.out, HY.out]
          exact ⟨_, rfl, hK _ _ g rfl⟩
        -- 17: law.go:44 alloc
        apply told_at newV_stays
        · intro W f hW hE h0 K hK
          clear hE h0
          refine yes_of (want_free rfl) ?_
          go_simp
          exact hK _ _ (gb_alloc (gb_refl _ _) _) ⟨_, rfl, hW.size, Row.new _ _ _⟩
        intro W f hW hA
        simp only [lexIn, Act.put, List.setIfInBounds_toArray, List.set_cons_zero, List.set_cons_succ]
        have e139 : f 139 = _ := hA 1 (some 139) _ rfl
        rw [e139]
        have e24 := hA 0 (some 24) _ rfl
        clear hA
        obtain ⟨gq, eq_, hgN, hr⟩ := e24
        rw [eq_]
        have q0 := hr.at_ (i := 0) rfl
        have q1 := hr.at_ (i := 1) rfl
        have q2 := hr.free 0
        have q3 := hr.free 1
        have hrs := (hr.set_ 0 (.string X)).set_ 1 (.bool Y)
        have q4 := hrs.at_ (i := 0) rfl
        have q5 := hrs.at_ (i := 1) rfl
        have hwg := Nat.le_trans G3.out.size hgN
        have gw := gb_new (gb_new (gb_none G3.out hW) (gb_set1 _ gq 0 (.string X)) hwg) (gb_set1 _ gq 1 (.bool Y)) hwg
        have Gw := Lib.hid gw
        have Q4 := Lib.hid q4
        have Q5 := Lib.hid q5
        clear e139 hrs q4 q5 gw hwg hgN
        rw [ends_is]
        go_simp
        have q4 := Q4.out
        have q5 := Q5.out
        clear q0 q1 q2 q3 hr hW
        cases Y <;>
        (go_wp2_with fail
         refine (awake6_any _ (hT.keep Gw.out (by simp)) (hB.keep Gw.out)).mono ?_
         rintro e z1 ⟨rfl, gz⟩
         go_wp2_with fail
         go_ret
         exact ⟨rfl, below_of (gb_none Gw.out gz)⟩)

def zs1 : List Int := [1779033703, 3144134277, 1013904242, 2773480762, 1359893119, 2600822924, 528734635, 1541459225]
def zs2 : List Int := [1116352408, 1899447441, 3049323471, 3921009573, 961987163, 1508970993, 2453635748, 2870763221, 3624381080, 310598401, 607225278, 1426881987, 1925078388, 2162078206, 2614888103, 3248222580, 3835390401, 4022224774, 264347078, 604807628, 770255983, 1249150122, 1555081692, 1996064986, 2554220882, 2821834349, 2952996808, 3210313671, 3336571891, 3584528711, 113926993, 338241895, 666307205, 773529912, 1294757372, 1396182291, 1695183700, 1986661051, 2177026350, 2456956037, 2730485921, 2820302411, 3259730800, 3345764771, 3516065817, 3600352804, 4094571909, 275423344, 430227734, 506948616, 659060556, 883997877, 958139571, 1322822218, 1537002063, 1747873779, 1955562222, 2024104815, 2227730452, 2361852424, 2428436474, 2756734187, 3204031479, 3329325298]
theorem tabs {W : World} (h : laidMetH Tryd.prog Rows.boxBackRow.laid W) : Tabs W := by
  have h1 : Lib.TabIs Tryd.prog W "deaddrop/sha.opening" .u32 zs1 := Lib.tabIs_of_head (rest := [("deaddrop/sha.roundNumbers", Rows.laid_deaddrop_sha_roundNumbers), ("deaddrop/box.errKey", Rows.laid_deaddrop_box_errKey), ("deaddrop/box.errNonce", Rows.laid_deaddrop_box_errNonce), ("deaddrop/box.errShort", Rows.laid_deaddrop_box_errShort), ("deaddrop/box.errLong", Rows.laid_deaddrop_box_errLong), ("deaddrop/box.errTag", Rows.laid_deaddrop_box_errTag)]) (g := 5) (t := 98) (e := 56) (n := 8) (by kernel_rfl) (by kernel_rfl) Tryd.underlying98 Tryd.underlying56 (by kernel_rfl) (by kernel_rfl) h
  have h2 : Lib.TabIs Tryd.prog W "deaddrop/sha.roundNumbers" .u32 zs2 := Lib.tabIs_of_head (rest := []) (g := 6) (t := 110) (e := 56) (n := 64) (by kernel_rfl) (by kernel_rfl) Tryd.underlying110 Tryd.underlying56 (by kernel_rfl) (by kernel_rfl) (laidMetH.filter (fun x => x.1 == "deaddrop/sha.roundNumbers") h)
  have e1 : ∀ i, i < 8 → zs1.getD i 0 = ((firstH.getD i 0).toNat : Int) := by decide
  have e2 : ∀ i, i < 64 → zs2.getD i 0 = ((konst.getD i 0).toNat : Int) := by decide +kernel
  have c1 : ∀ i, i < 8 → W.cell? ⟨5, i, none⟩ = some (w32 (firstH.getD i 0)) := fun i hi => by
    have := h1.cell (g := 5) (by kernel_rfl) i (by rw [show zs1.length = 8 from rfl]; exact hi)
    rw [e1 i hi] at this; exact this
  have c2 : ∀ i, i < 64 → W.cell? ⟨6, i, none⟩ = some (w32 (konst.getD i 0)) := fun i hi => by
    have := h2.cell (g := 6) (by kernel_rfl) i (by rw [show zs2.length = 64 from rfl]; exact hi)
    rw [e2 i hi] at this; exact this
  exact ⟨block_lt_of_cell (c2 0 (by decide)), c1, c2⟩

theorem star : "*" ++ "errors.errorString" = "*errors.errorString" := by decide
theorem row_err (u : TypeId) (h : Tryd.prog.typeName? 3 u = some "*errors.errorString") : u = 113 :=
  typeName_ptr_named (nm := "errors.errorString") (by rw [star]; kernel_rfl) (by kernel_rfl) (by decide) u (by rw [star]; exact h)
theorem pair0 {W : World} (h : laidMetH Tryd.prog Rows.boxBackRow.laid W) : Bx.BE W 3 ∧ Bx.BE W 4 := by
  have h4 : laidMet Tryd.prog [("deaddrop/box.errKey", Rows.laid_deaddrop_box_errKey), ("deaddrop/box.errNonce", Rows.laid_deaddrop_box_errNonce)] W := (laidMetH_iff.1 (laidMetH.filter (fun x => x.1 == "deaddrop/box.errKey" || x.1 == "deaddrop/box.errNonce") h)).1
  obtain ⟨a0, a1, s0, s1, c0, c1, t0, t1, hv0, hv1, hc0, hs0, hz0, hc1, hs1, hz1, hne, hb0, hb1⟩ := laid_sentinels2 h4 (g0 := 3) (g1 := 4) (ti := 41) (by kernel_rfl) (by kernel_rfl) (by kernel_rfl) (by kernel_rfl) Tryd.underlying41 row_err Tryd.underlying113 Tryd.underlying137 rfl rfl Tryd.underlying9 (by kernel_rfl) (by kernel_rfl)
  exact ⟨⟨a0, c0, t0, by simpa using World.var?_cell (g := 3) (by kernel_rfl) hv0 0, hb0⟩, ⟨a1, c1, t1, by simpa using World.var?_cell (g := 4) (by kernel_rfl) hv1 0, hb1⟩⟩
theorem pair1 {W : World} (h : laidMetH Tryd.prog Rows.boxBackRow.laid W) : Bx.BE W 0 ∧ Bx.BE W 1 := by
  have h4 : laidMet Tryd.prog [("deaddrop/box.errShort", Rows.laid_deaddrop_box_errShort), ("deaddrop/box.errLong", Rows.laid_deaddrop_box_errLong)] W := (laidMetH_iff.1 (laidMetH.filter (fun x => x.1 == "deaddrop/box.errShort" || x.1 == "deaddrop/box.errLong") h)).1
  obtain ⟨a0, a1, s0, s1, c0, c1, t0, t1, hv0, hv1, hc0, hs0, hz0, hc1, hs1, hz1, hne, hb0, hb1⟩ := laid_sentinels2 h4 (g0 := 0) (g1 := 1) (ti := 41) (by kernel_rfl) (by kernel_rfl) (by kernel_rfl) (by kernel_rfl) Tryd.underlying41 row_err Tryd.underlying113 Tryd.underlying137 rfl rfl Tryd.underlying9 (by kernel_rfl) (by kernel_rfl)
  exact ⟨⟨a0, c0, t0, by simpa using World.var?_cell (g := 0) (by kernel_rfl) hv0 0, hb0⟩, ⟨a1, c1, t1, by simpa using World.var?_cell (g := 1) (by kernel_rfl) hv1 0, hb1⟩⟩
theorem pair2 {W : World} (h : laidMetH Tryd.prog Rows.boxBackRow.laid W) : Bx.BE W 1 ∧ Bx.BE W 2 := by
  have h4 : laidMet Tryd.prog [("deaddrop/box.errLong", Rows.laid_deaddrop_box_errLong), ("deaddrop/box.errTag", Rows.laid_deaddrop_box_errTag)] W := (laidMetH_iff.1 (laidMetH.filter (fun x => x.1 == "deaddrop/box.errLong" || x.1 == "deaddrop/box.errTag") h)).1
  obtain ⟨a0, a1, s0, s1, c0, c1, t0, t1, hv0, hv1, hc0, hs0, hz0, hc1, hs1, hz1, hne, hb0, hb1⟩ := laid_sentinels2 h4 (g0 := 1) (g1 := 2) (ti := 41) (by kernel_rfl) (by kernel_rfl) (by kernel_rfl) (by kernel_rfl) Tryd.underlying41 row_err Tryd.underlying113 Tryd.underlying137 rfl rfl Tryd.underlying9 (by kernel_rfl) (by kernel_rfl)
  exact ⟨⟨a0, c0, t0, by simpa using World.var?_cell (g := 1) (by kernel_rfl) hv0 0, hb0⟩, ⟨a1, c1, t1, by simpa using World.var?_cell (g := 2) (by kernel_rfl) hv1 0, hb1⟩⟩
theorem berrs {W : World} (h : laidMetH Tryd.prog Rows.boxBackRow.laid W) : Bx.BErrs W := ⟨(pair0 h).1, (pair0 h).2, (pair1 h).1, (pair1 h).2, (pair2 h).2⟩

set_option maxRecDepth 100000 in
theorem contract (H : Type) (enc : TypeId × Value → H) (W : World) (base : Nat) (args : Array Value) (ds gs : List (DataW H)) (before : List MemPlace)
    (hval0 : ∀ (j : Nat) t v, Tryd.f4.params[j]? = some t → args[j]? = some v → Value.okWide Tryd.prog W .any base t v)
    (hW : DataW.Whole enc Tryd.prog Tryd.f4.params.toList Rows.boxBackSpec.vars false W args.toList ds gs before) (hL : laidMetH Tryd.prog Rows.boxBackRow.laid W) :
    Calls Tryd.prog 4 args W fun e W' => ∃ v, e = .returned v ∧ Rows.boxBackSpec.post enc Tryd.prog Tryd.f4 false true false false W args v W' := by
  have hval : ∀ (j : Nat) t v, Tryd.f4.params[j]? = some t → args[j]? = some v → Value.okWide Tryd.prog W .any base t v := hval0
  have hW' := hW
  obtain ⟨p, q, hA0, hV, rfl, hfz, hnd⟩ := hW
  have hA : DataW.TrodAll enc Tryd.prog W 0 (fun _ => true) true Tryd.f4.params.toList args.toList ds p := hA0
  rw [Tryd.params4] at hA hval
  obtain ⟨v0, vs0, d0, ds0, p0, q0, hargs, rfl, rfl, h0, r0⟩ := trodAll_cons hA
  obtain ⟨v1, vs1, d1, ds1, p1, q1, rfl, rfl, rfl, h1, r1⟩ := trodAll_cons r0
  obtain ⟨v2, vs2, d2, ds2, p2, q2, rfl, rfl, rfl, h2, r2⟩ := trodAll_cons r1
  obtain ⟨v3, vs3, d3, ds3, p3, q3, rfl, rfl, rfl, h3, r3⟩ := trodAll_cons r2
  obtain ⟨v4, vs4, d4, ds4, p4, q4, rfl, rfl, rfl, h4, r4⟩ := trodAll_cons r3
  obtain ⟨v5, vs5, d5, ds5, p5, q5, rfl, rfl, rfl, h5, r5⟩ := trodAll_cons r4
  obtain ⟨v6, vs6, d6, ds6, p6, q6, rfl, rfl, rfl, h6, r6⟩ := trodAll_cons r5
  obtain ⟨rfl, rfl, rfl⟩ := trodAll_nil r6
  obtain rfl : args = #[v0, v1, v2, v3, v4, v5, v6] := by cases args; simp_all
  obtain ⟨rfl, rfl⟩ := trodVars_none hV
  obtain ⟨a0, len0, cap0, rfl⟩ := okWide_slice Tryd.underlying30 (hval 0 30 v0 rfl rfl)
  have k0 := h0
  have lt0 : ∀ x ∈ p0, x.block < W.heap.size := by obtain ⟨m, hm⟩ := k0; exact DataW.trod_lt m _ _ _ hm
  obtain ⟨z0, w0⟩ : ∃ zs, IsRow .u8 W a0 len0 cap0 zs := by
    obtain ⟨fuel, hf⟩ := h0
    rcases open_ints Tryd.underlying30 Tryd.underlying5 (by kernel_rfl) hf with ⟨hcs, _⟩ | ⟨x, l, c, zs, hcs, _, hl, hm, hz, _, hcell, hwz⟩
    · simp [Value.cells] at hcs
      obtain ⟨rfl, rfl, rfl⟩ := hcs
      exact ⟨[], .inl ⟨rfl, rfl, rfl, rfl⟩⟩
    · simp [Value.cells] at hcs
      obtain ⟨rfl, rfl, rfl⟩ := hcs
      exact ⟨zs, .inr ⟨_, rfl, hl, hm, by simpa using hz, hcell, hwz⟩⟩
  obtain ⟨a1, len1, cap1, rfl⟩ := okWide_slice Tryd.underlying30 (hval 1 30 v1 rfl rfl)
  have k1 := h1
  have lt1 : ∀ x ∈ p1, x.block < W.heap.size := by obtain ⟨m, hm⟩ := k1; exact DataW.trod_lt m _ _ _ hm
  obtain ⟨z1, w1⟩ : ∃ zs, IsRow .u8 W a1 len1 cap1 zs := by
    obtain ⟨fuel, hf⟩ := h1
    rcases open_ints Tryd.underlying30 Tryd.underlying5 (by kernel_rfl) hf with ⟨hcs, _⟩ | ⟨x, l, c, zs, hcs, _, hl, hm, hz, _, hcell, hwz⟩
    · simp [Value.cells] at hcs
      obtain ⟨rfl, rfl, rfl⟩ := hcs
      exact ⟨[], .inl ⟨rfl, rfl, rfl, rfl⟩⟩
    · simp [Value.cells] at hcs
      obtain ⟨rfl, rfl, rfl⟩ := hcs
      exact ⟨zs, .inr ⟨_, rfl, hl, hm, by simpa using hz, hcell, hwz⟩⟩
  obtain ⟨a2, rfl, rfl, rfl, w2⟩ := open_string Tryd.underlying9 (hval 2 9 v2 rfl rfl) h2
  obtain ⟨a3, rfl, rfl, rfl, w3⟩ := open_string Tryd.underlying9 (hval 3 9 v3 rfl rfl) h3
  obtain ⟨a4, rfl, rfl, rfl, w4⟩ := open_int Tryd.underlying5 (hval 4 5 v4 rfl rfl) h4
  obtain ⟨a5, rfl, rfl, rfl, w5⟩ := open_int Tryd.underlying31 (hval 5 31 v5 rfl rfl) h5
  obtain ⟨a6, rfl, rfl, rfl, w6⟩ := open_int Tryd.underlying5 (hval 6 5 v6 rfl rfl) h6
  clear hA0 hval0
  refine (walk a0 len0 cap0 z0 a1 len1 cap1 z1 a2 a3 a4 a5 a6 W w0 w1 w2 w3 w4 w5 w6 (tabs hL) (berrs hL)).mono fun e W' ⟨he, bel⟩ => ?_
  subst he
  exact ⟨_, rfl, _, _, _, [], _, [], hW', trodAll_mk1 (shut_bool Tryd.underlying4 _), (trodAll_cons_mk (Below.trod laidOut (by kernel_rfl) (of_decide_eq_true (by kernel_rfl)) k0 bel lt0) (trodAll_cons_mk (Below.trod laidOut (by kernel_rfl) (of_decide_eq_true (by kernel_rfl)) k1 bel lt1) (trodAll_cons_mk (shut_string Tryd.underlying9 w2) (trodAll_cons_mk (shut_string Tryd.underlying9 w3) (trodAll_cons_mk (shut_int Tryd.underlying5 w4) (trodAll_cons_mk (shut_int Tryd.underlying31 w5) (trodAll_cons_mk (shut_int Tryd.underlying5 w6) trodAll_mk0))))))), rfl, bel.frame _, fun h => by cases h⟩

def lay (cs : Array Value) : Obj → Obj
  | .cells _ t frozen => .cells cs t frozen
  | o => o
noncomputable def low : Nat := (World.holding Tryd.prog default ⟨#[], #[], []⟩).heap.size
noncomputable def laidWorld (os : Os) : World :=
  { World.holding Tryd.prog os ⟨#[.cells #[.string ⟨#[110, 111, 116, 32, 97, 115, 32, 108, 111, 110, 103, 32, 97, 115, 32, 97, 32, 112, 97, 105, 114, 32, 111, 102, 32, 107, 101, 121, 115]⟩] 137, .cells #[.string ⟨#[110, 111, 116, 32, 97, 115, 32, 108, 111, 110, 103, 32, 97, 115, 32, 97, 32, 110, 111, 110, 99, 101]⟩] 137, .cells #[.string ⟨#[115, 104, 111, 114, 116, 101, 114, 32, 116, 104, 97, 110, 32, 97, 32, 116, 97, 103]⟩] 137, .cells #[.string ⟨#[108, 111, 110, 103, 101, 114, 32, 116, 104, 97, 110, 32, 119, 104, 97, 116, 32, 105, 115, 32, 101, 118, 101, 114, 32, 115, 101, 97, 108, 101, 100]⟩] 137, .cells #[.string ⟨#[116, 104, 101, 32, 116, 97, 103, 32, 100, 111, 101, 115, 32, 110, 111, 116, 32, 102, 105, 116]⟩] 137], #[], []⟩ with heap := (((((((World.holding Tryd.prog os ⟨#[.cells #[.string ⟨#[110, 111, 116, 32, 97, 115, 32, 108, 111, 110, 103, 32, 97, 115, 32, 97, 32, 112, 97, 105, 114, 32, 111, 102, 32, 107, 101, 121, 115]⟩] 137, .cells #[.string ⟨#[110, 111, 116, 32, 97, 115, 32, 108, 111, 110, 103, 32, 97, 115, 32, 97, 32, 110, 111, 110, 99, 101]⟩] 137, .cells #[.string ⟨#[115, 104, 111, 114, 116, 101, 114, 32, 116, 104, 97, 110, 32, 97, 32, 116, 97, 103]⟩] 137, .cells #[.string ⟨#[108, 111, 110, 103, 101, 114, 32, 116, 104, 97, 110, 32, 119, 104, 97, 116, 32, 105, 115, 32, 101, 118, 101, 114, 32, 115, 101, 97, 108, 101, 100]⟩] 137, .cells #[.string ⟨#[116, 104, 101, 32, 116, 97, 103, 32, 100, 111, 101, 115, 32, 110, 111, 116, 32, 102, 105, 116]⟩] 137], #[], []⟩).heap.modify 5 (lay #[.int .u32 1779033703, .int .u32 3144134277, .int .u32 1013904242, .int .u32 2773480762, .int .u32 1359893119, .int .u32 2600822924, .int .u32 528734635, .int .u32 1541459225])).modify 6 (lay #[.int .u32 1116352408, .int .u32 1899447441, .int .u32 3049323471, .int .u32 3921009573, .int .u32 961987163, .int .u32 1508970993, .int .u32 2453635748, .int .u32 2870763221, .int .u32 3624381080, .int .u32 310598401, .int .u32 607225278, .int .u32 1426881987, .int .u32 1925078388, .int .u32 2162078206, .int .u32 2614888103, .int .u32 3248222580, .int .u32 3835390401, .int .u32 4022224774, .int .u32 264347078, .int .u32 604807628, .int .u32 770255983, .int .u32 1249150122, .int .u32 1555081692, .int .u32 1996064986, .int .u32 2554220882, .int .u32 2821834349, .int .u32 2952996808, .int .u32 3210313671, .int .u32 3336571891, .int .u32 3584528711, .int .u32 113926993, .int .u32 338241895, .int .u32 666307205, .int .u32 773529912, .int .u32 1294757372, .int .u32 1396182291, .int .u32 1695183700, .int .u32 1986661051, .int .u32 2177026350, .int .u32 2456956037, .int .u32 2730485921, .int .u32 2820302411, .int .u32 3259730800, .int .u32 3345764771, .int .u32 3516065817, .int .u32 3600352804, .int .u32 4094571909, .int .u32 275423344, .int .u32 430227734, .int .u32 506948616, .int .u32 659060556, .int .u32 883997877, .int .u32 958139571, .int .u32 1322822218, .int .u32 1537002063, .int .u32 1747873779, .int .u32 1955562222, .int .u32 2024104815, .int .u32 2227730452, .int .u32 2361852424, .int .u32 2428436474, .int .u32 2756734187, .int .u32 3204031479, .int .u32 3329325298])).modify 3 (lay #[.iface 113 (.pointer (some ⟨low, 0, none⟩))])).modify 4 (lay #[.iface 113 (.pointer (some ⟨low + 1, 0, none⟩))])).modify 0 (lay #[.iface 113 (.pointer (some ⟨low + 2, 0, none⟩))])).modify 1 (lay #[.iface 113 (.pointer (some ⟨low + 3, 0, none⟩))])).modify 2 (lay #[.iface 113 (.pointer (some ⟨low + 4, 0, none⟩))]) }
theorem laid_met (os : Os) : laidMet Tryd.prog Rows.boxBackRow.laid ((laidWorld os).forCall (fun _ _ => 0) ⟨#[], #[.slice none 0 0, .slice none 0 0, .string ByteArray.empty, .string ByteArray.empty, .int .u8 0, .int .u16 0, .int .u8 0], []⟩).memory :=
  laidMet_of_run' 8 (by kernel_rfl) (by kernel_rfl)
theorem reads (os : Os) {H : Type} (enc : TypeId × Value → H) : ∃ places, DataW.whole enc Tryd.prog ((laidWorld os).forCall (fun _ _ => 0) ⟨#[], #[.slice none 0 0, .slice none 0 0, .string ByteArray.empty, .string ByteArray.empty, .int .u8 0, .int .u16 0, .int .u8 0], []⟩).memory Tryd.f4.params.toList Rows.boxBackSpec.vars false (show Array Value from #[.slice none 0 0, .slice none 0 0, .string ByteArray.empty, .string ByteArray.empty, .int .u8 0, .int .u16 0, .int .u8 0]).toList 8 = some ([.nil, .nil, .lit (.string []), .lit (.string []), .lit (.int .u8 0), .lit (.int .u16 0), .lit (.int .u8 0)], [], places) :=
  ⟨[], by kernel_rfl⟩

set_option maxRecDepth 100000 in
theorem lifted (os : Os) (started : os.Started) (H : Type) (enc : TypeId × Value → H) (F : Stop.Interp) :
    ReturnsInHanded {} Tryd.checked os 4 .any ((OpenSpec.ofChange Rows.boxBackSpec).preRow enc Tryd.prog Tryd.f4 Rows.boxBackRow.domain false Rows.boxBackRow.laid) (((OpenSpec.ofChange Rows.boxBackSpec).at F).post enc Tryd.prog Tryd.f4 false true false false) := by
  obtain ⟨places, hx⟩ := reads os enc
  refine returnsInHanded_of_row (C := Tryd.checked) (s := OpenSpec.ofChange Rows.boxBackSpec) own started (by kernel_rfl) Tryd.func4
    (witness_row_at (enc := enc) (C := Tryd.checked) false (laidWorld os) #[.slice none 0 0, .slice none 0 0, .string ByteArray.empty, .string ByteArray.empty, .int .u8 0, .int .u16 0, .int .u8 0] rfl (by kernel_rfl) (by kernel_rfl) (by kernel_rfl)
      (OpenSpec.preRow_of_cond 8 hx (by kernel_rfl) (fun k hk => by cases hk) (by kernel_rfl) (laid_met os))) ?_
  intro W base args ds gs before hval hW _ _ _ hL _ _
  exact contract H enc W base args ds gs before hval hW hL

theorem said : Rows.BoxBackSaid :=
  OpenClaim.holds_of_cond 4 Tryd.f4 rfl rfl rfl rfl rfl rfl rfl ⟨rfl, rfl, rfl, rfl, rfl⟩ rfl rfl rfl rfl rfl (by kernel_rfl) Tryd.func4 (by kernel_rfl)
    (of_decide_eq_true (by kernel_rfl)) (by unfold Func.isWrapper; first | (rw [if_pos (by decide +kernel)]; kernel_rfl) | (rw [if_neg (by decide +kernel)]; exact ⟨rfl, rfl⟩))
    (fun os started H enc _ F => by rw [OpenClaim.pre_eq_preRow]; exact lifted os started H enc F)

theorem plain (f : FuncId) (fn : Func) (hf : Tryd.pinned.checked.prog.funcNamed "deaddrop/deaddroplaw6.BoxBack" = some f) (hfn : Tryd.pinned.checked.prog.funcs[f]? = some fn) :
    true = Tryd.pinned.checked.prog.looks [] ∧ ∀ (j : Nat) t, fn.params[j]? = some t → Tryd.pinned.checked.prog.wantsStandIn t = false := by
  obtain rfl : f = 4 := Option.some.inj ((show Tryd.prog.funcNamed "deaddrop/deaddroplaw6.BoxBack" = some 4 by kernel_rfl).symm.trans hf) |>.symm
  obtain rfl : fn = Tryd.f4 := (Option.some.inj (Tryd.func4.symm.trans hfn)).symm
  refine ⟨by kernel_rfl, fun j t ht => ?_⟩
  have hall : (Tryd.f4.params.toList.all fun u => !Tryd.prog.wantsStandIn u) = true := by kernel_rfl
  have hm : t ∈ Tryd.f4.params.toList := by simpa using Array.mem_of_getElem? ht
  exact (show Tryd.prog.wantsStandIn t = false by simpa using List.all_eq_true.1 hall t hm)

theorem card : Rows.BoxBackCardSaid :=
  Claim7.holds_tied_plain_at .later [] _ _ _ _ said (fun _ h => by cases h) (by kernel_rfl) (fun _ h => by cases h) boxBack_row_tie rfl ⟨rfl, rfl⟩ (by kernel_rfl) rfl plain (by kernel_rfl)
#print axioms card
end Go.Proofs.YthdealjnhgkoiaaDoor.boxBack
