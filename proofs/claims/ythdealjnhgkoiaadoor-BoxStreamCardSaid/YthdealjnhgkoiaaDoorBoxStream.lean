/-
  Proved: whatever values of its parameters' types it is called with, deaddroplaw6.BoxStream returns true, and each argument reads behind the call as it read before; the two tables of package sha being what the program's own text lays (the card ties them).
  Conditions: none but those of the card itself.
-/
import Derived.Test.YthdealjnhgkoiaaDoorCards
import Derived.Test.YthdealjnhgkoiaaDoorTie
import Derived.WalkKit
import Derived.ProofKit
import Derived.OpenShut
import Derived.ShutString
import Derived.Below
import Derived.Deep.DeepHandedRow
import Derived.Lib.LaidTab
import Derived.LaidSub
import Derived.Stop.LaidTwo
import Derived.Test.YthdealjnhgkoiaaDoorBxAwake
import Derived.IntWalk
import Derived.Outline
import Derived.BigQuiet
namespace Go.Proofs.YthdealjnhgkoiaaDoor.boxStream
open Go.ChangeShapes Go.WideShapes Go.ChangeAt Go.RowKit
open Go.ChangeMaps (open_string shut_string)
open Go.Proofs.YthdealjnhgkoiaaDoor.Wd Go.Proofs.YthdealjnhgkoiaaDoor.Mm
set_option linter.unusedVariables false

theorem own : ownKnob Tryd.prog.godebug = none := by kernel_rfl
theorem laidOut : laidOutB Tryd.prog = true := by kernel_rfl

/-- WHAT THE WALK IS TOLD OF A SLICE OF INTEGERS THAT CAME IN: it is nil; or it leads to a row of 'cap' cells, the numbers 'zs' (the first 'len' are its elements, the rest its spare room), each fitting its kind. -/
def IsRow (k : IntKind) (w : World) (a : Option Addr) (len cap : Nat) (zs : List Int) : Prop :=
  (a = none ∧ len = 0 ∧ cap = 0 ∧ zs = []) ∨
  ∃ x, a = some x ∧ len ≤ cap ∧ cap ≤ maxLen ∧ zs.length = cap ∧ (∀ i, i < zs.length → w.cell? (x.add i) = some (.int k (zs.getD i 0))) ∧ ∀ n ∈ zs, (Lit.int k n).wf = true


open Bx Td
attribute [local go_sem] Td.upon_value Td.upon_skip Td.upon_enter Td.upon_row Td.look_tmp Td.look_const Td.look_func Td.look_global

def rowV (n : Nat) (l : List UInt8) : Td.Spec := fun W v => ∃ g, v = .slice (some ⟨g, 0, none⟩) n n ∧ Row W g 5 (l.map w8).toArray
theorem rowV_stays {n : Nat} {l : List UInt8} : Stays (fun a b => a.grownBy b none) (rowV n l) := fun _ _ _ h ⟨g, e, hr⟩ => ⟨g, e, hr.kept h (by simp)⟩
theorem xor_pair (a b s : UInt8) : (a ^^^ s) ^^^ (b ^^^ s) = a ^^^ b := by
  rw [UInt8.xor_comm b s, UInt8.xor_assoc, ← UInt8.xor_assoc s s b, UInt8.xor_self, UInt8.zero_xor]
theorem seal_byte (k o ad p : ByteArray) (j : Nat) (hk : k.size = 64) (ho : o.size = 12) (hp : p.size ≤ 1048576) (hj : j < p.size) :
    (sealB k o ad p).data.toList.getD j 0 = p.data.toList.getD j 0 ^^^ Cc.keyB (k.extract 0 32).data.toList o.data.toList 1 j := by
  have hx := xorB_size k o p hk ho hp
  have hd := xorB_data k o p hk ho hp
  rw [sealB, if_pos ⟨hk, ho, hp⟩, ByteArray.data_append, Array.toList_append, List.getD_eq_getElem?_getD, List.getElem?_append_left (by rw [Cc.len_data, hx]; exact hj), ← List.getD_eq_getElem?_getD, hd, xorS_getD _ _ _ _ _ (by rw [Cc.len_data]; exact hj)]
  rfl
theorem ext_byte (a : ByteArray) (m j : Nat) (hj : j < m) : (a.extract 0 m).data.toList.getD j 0 = a.data.toList.getD j 0 := by
  rw [ByteArray.data_extract, Array.toList_extract]
  simp [hj]
theorem two_bytes (k o d1 d2 a b : ByteArray) (m j : Nat) (hk : k.size = 64) (ho : o.size = 12) (hm : m ≤ 1048576) (ha : m ≤ a.size) (hb : m ≤ b.size) (hj : j < m) :
    (sealB k o d1 (a.extract 0 m)).data.toList.getD j 0 ^^^ (sealB k o d2 (b.extract 0 m)).data.toList.getD j 0 = a.data.toList.getD j 0 ^^^ b.data.toList.getD j 0 := by
  have h1 : (a.extract 0 m).size = m := by rw [ByteArray.size_extract]; omega
  have h2 : (b.extract 0 m).size = m := by rw [ByteArray.size_extract]; omega
  rw [seal_byte k o d1 _ j hk ho (by omega) (by omega), seal_byte k o d2 _ j hk ho (by omega) (by omega), ext_byte _ _ _ hj, ext_byte _ _ _ hj, xor_pair]
theorem seal_front (k o ad p : ByteArray) (m : Nat) (hk : k.size = 64) (ho : o.size = 12) (hp : p.size = m) (hm : m ≤ 1048576) : (sealB k o ad p).extract 0 m = xorB k o p := by
  have hx := xorB_size k o p hk ho (by omega)
  rw [sealB, if_pos ⟨hk, ho, by omega⟩]
  apply bytes_ext
  rw [ByteArray.data_extract, Array.toList_extract, ByteArray.data_append, Array.toList_append, ← hp, ← hx]
  simp
attribute [local go_sem] xor8

set_option maxHeartbeats 40000000 in
set_option maxRecDepth 100000 in
theorem walk (a0 : Option Addr) (len0 cap0 : Nat) (z0 : List Int) (a1 : Option Addr) (len1 cap1 : Nat) (z1 : List Int) (a2 : ByteArray) (a3 : ByteArray) (w : World) (w0 : IsRow .u8 w a0 len0 cap0 z0) (w1 : IsRow .u8 w a1 len1 cap1 z1) (w2 : a2.size ≤ maxLen) (w3 : a3.size ≤ maxLen) (hT : Tabs w) (hB : Bx.BErrs w) :
    Calls Tryd.prog 7 #[.slice a0 len0 cap0, .slice a1 len1 cap1, .string a2, .string a3] w fun e w' => e = .returned (.bool true) ∧ Below w.heap.size w w' := by
  obtain ⟨hb0, hl0, _⟩ := Cc.holds_of_row w0
  obtain ⟨hb1, hl1, _⟩ := Cc.holds_of_row w1
  clear w0 w1 w2 w3
  generalize Cc.bytesOf z0 len0 = b0 at *
  generalize Cc.bytesOf z1 len1 = b1 at *
  have hk := bytesB_size b0 64
  have ho := bytesB_size b1 12
  obtain ⟨k, HK⟩ : ∃ k : ByteArray, Hid ((⟨(Cc.bytesS b0 64).toArray⟩ : ByteArray) = k) := ⟨_, rfl⟩
  obtain ⟨o, HN⟩ : ∃ o : ByteArray, Hid ((⟨(Cc.bytesS b1 12).toArray⟩ : ByteArray) = o) := ⟨_, rfl⟩
  rw [HK.out] at hk
  rw [HN.out] at ho
  by_cases hlt : a3.size < a2.size
  · by_cases c1 : 200 < a3.size
    · have t1 : decide ((200 : Int) < (a3.size : Int)) = true := decide_eq_true (by omega)
      clear c1
      go_enter Tryd.func7, Tryd.ntmps7
      go_wp2_with fail
      refine (awake6_any _ hT hB).mono ?_
      rintro e x1 ⟨rfl, g1⟩
      go_wp2_with fail
      go_ret
      exact ⟨rfl, below_of g1⟩
    · have t1 : decide ((200 : Int) < (a3.size : Int)) = false := decide_eq_false (by omega)
      obtain ⟨m, hm⟩ : ∃ m, a3.size = m := ⟨_, rfl⟩
      have hma : m ≤ a2.size := by omega
      have hmb : m ≤ a3.size := by omega
      have hm2 : m ≤ 200 := by omega
      have Hm := Lib.hid hm
      clear c1 hm
      obtain ⟨X, HX⟩ : ∃ X : ByteArray, Hid (sealB k o ⟨#[]⟩ (a2.extract 0 m) = X) := ⟨_, rfl⟩
      obtain ⟨Y, HY⟩ : ∃ X : ByteArray, Hid (sealB k o ⟨#[111, 116, 104, 101, 114]⟩ (a3.extract 0 m) = X) := ⟨_, rfl⟩
      have hx1 : (a2.extract 0 m).size = m := by rw [ByteArray.size_extract]; omega
      have hx2 : (a3.extract 0 m).size = m := by rw [ByteArray.size_extract]; omega
      have hXs : X.size = m + 16 := by rw [← HX.out, sealB_size k o _ _ hk ho (by omega), hx1]
      have hYs : Y.size = m + 16 := by rw [← HY.out, sealB_size k o _ _ hk ho (by omega), hx2]
      have hXY : ∀ j, j < m → X.data.toList.getD j 0 ^^^ Y.data.toList.getD j 0 = a2.data.toList.getD j 0 ^^^ a3.data.toList.getD j 0 := fun j hj => by
        rw [← HX.out, ← HY.out]
        exact two_bytes k o _ _ a2 a3 m j hk ho (by omega) hma hmb hj
      obtain ⟨O0, HO0⟩ : ∃ O0 : ByteArray, Hid ((⟨(List.replicate m (0 : UInt8)).toArray⟩ : ByteArray) = O0) := ⟨_, rfl⟩
      have hO0 : O0.size = m := by rw [← HO0.out, ← Cc.len_data, Cc.ba, List.length_replicate]
      obtain ⟨Z, HZ⟩ : ∃ X : ByteArray, Hid (sealB k o ⟨#[]⟩ O0 = X) := ⟨_, rfl⟩
      obtain ⟨V, HV⟩ : ∃ X : ByteArray, Hid (xorB k o O0 = X) := ⟨_, rfl⟩
      have hZs : Z.size = m + 16 := by rw [← HZ.out, sealB_size k o _ _ hk ho (by omega), hO0]
      have hZf : Z.extract 0 m = V := by rw [← HZ.out, ← HV.out]; exact seal_front k o _ _ m hk ho hO0 (by omega)
      have hO9 : O0.size ≤ 9223372036854775807 := by omega
      have HO9 := Lib.hid hO9
      have hmk := makeB_at m (by omega)
      have Hmk := Lib.hid hmk
      have HXY := Lib.hid hXY
      have HXs := Lib.hid hXs
      have HYs := Lib.hid hYs
      have HZs := Lib.hid hZs
      have HZf := Lib.hid hZf
      have Hk := Lib.hid hk
      have Ho := Lib.hid ho
      have q2 : (m : Int) ≤ (a2.size : Int) := by omega
      have q3 : (m : Int) ≤ (a3.size : Int) := by omega
      have p1 : (32 : Int) ≤ (k.size : Int) := by omega
      have p2 : 32 ≤ k.size := by omega
      clear hx1 hx2 hXs hYs hXY hO0 hZs hZf hO9 hmk hk ho
      go_enter Tryd.func7, Tryd.ntmps7
      go_wp2_with fail
      rw [Hm.out]
      clear Hm hlt t1
      refine (Cc.bytes_any a0 len0 cap0 64 b0 _ hb0 hl0 (by decide)).mono ?_
      rintro e x1 ⟨rfl, g1⟩
      rw [HK.out]
      go_wp2_with fail
      refine (Cc.bytes_any a1 len1 cap1 12 b1 _ (hb1.keep g1) hl1 (by decide)).mono ?_
      rintro e x2 ⟨rfl, g2⟩
      rw [HN.out]
      replace g2 := gb_none g1 g2
      have hT2 := hT.keep g2 (by simp)
      have hB2 := hB.keep g2
      clear g1
      go_wp2_with fail
      apply wp_region_told (le := fun a b => a.grownBy b none) [isV _, isV _, isV _, isV _, isV _, isV _, isV _, isV _, isV _, isV _, isV _, isV _, isV _, isV _]
      case hn => rfl
      case hm => kernel_rfl
      case hB => kernel_rfl
      case ht => exact fun _ _ _ h k => gb_none h k
      case hw => exact gb_drew (gb_refl _ _)
      -- 0: more.go:16 move
      apply told_is
      · intro W f hW hE h0 K hK
        have e10 := h0 10 (by kernel_rfl)
        conv at e10 => rhs; whnf
        clear hE h0
        refine yes_of (want_free rfl) ?_
        go_simp; exact hK _ _ (gb_refl _ _) rfl
      -- 1: more.go:16 move
      apply told_is
      · intro W f hW hE h0 K hK
        have e11 := h0 11 (by kernel_rfl)
        conv at e11 => rhs; whnf
        clear hE h0
        refine yes_of (want_free rfl) ?_
        go_simp; exact hK _ _ (gb_refl _ _) rfl
      -- 2: more.go:16 move
      apply told_is
      · intro W f hW hE h0 K hK
        have e2 := h0 2 (by kernel_rfl)
        conv at e2 => rhs; whnf
        clear hE h0
        refine yes_of (want_free rfl) ?_
        go_simp; exact hK _ _ (gb_refl _ _) rfl
      -- 3: more.go:16 move
      apply told_is
      · intro W f hW hE h0 K hK
        have e9 := h0 9 (by kernel_rfl)
        conv at e9 => rhs; whnf
        clear hE h0
        refine yes_of (want_free rfl) ?_
        go_simp; exact hK _ _ (gb_refl _ _) rfl
      -- 4: more.go:16 slice
      apply told_is
      · intro W f hW hE h0 K hK
        have e30 : f 30 = _ := hE 1 30 _ rfl (by kernel_rfl)
        have e31 : f 31 = _ := hE 0 31 _ rfl (by kernel_rfl)
        clear hE h0
        refine yes_of (want_free rfl) ?_
        go_simp; exact hK _ _ (gb_refl _ _) rfl
      -- 5: more.go:16 call
      apply told_is
      · intro W f hW hE h0 K hK
        have e28 : f 28 = _ := hE 4 28 _ rfl (by kernel_rfl)
        have e29 : f 29 = _ := hE 3 29 _ rfl (by kernel_rfl)
        have e32 : f 32 = _ := hE 0 32 _ rfl (by kernel_rfl)
        clear hE h0
        refine yes_of (want_free rfl) ?_
        go_simp
        refine (seal_any k o ⟨#[]⟩ (a2.extract 0 m) _ (by decide) (hT2.keep hW (by simp)) (hB2.keep hW)).mono ?_
        rintro e w1 ⟨rfl, g⟩
        rw [HX.out]
        exact ⟨_, rfl, hK _ _ g rfl⟩
      -- 6: more.go:16 move
      apply told_is
      · intro W f hW hE h0 K hK
        have e10 := h0 10 (by kernel_rfl)
        conv at e10 => rhs; whnf
        clear hE h0
        refine yes_of (want_free rfl) ?_
        go_simp; exact hK _ _ (gb_refl _ _) rfl
      -- 7: more.go:16 move
      apply told_is
      · intro W f hW hE h0 K hK
        have e11 := h0 11 (by kernel_rfl)
        conv at e11 => rhs; whnf
        clear hE h0
        refine yes_of (want_free rfl) ?_
        go_simp; exact hK _ _ (gb_refl _ _) rfl
      -- 8: more.go:16 move
      apply told_is
      · intro W f hW hE h0 K hK
        have e3 := h0 3 (by kernel_rfl)
        conv at e3 => rhs; whnf
        clear hE h0
        refine yes_of (want_free rfl) ?_
        go_simp; exact hK _ _ (gb_refl _ _) rfl
      -- 9: more.go:16 move
      apply told_is
      · intro W f hW hE h0 K hK
        have e9 := h0 9 (by kernel_rfl)
        conv at e9 => rhs; whnf
        clear hE h0
        refine yes_of (want_free rfl) ?_
        go_simp; exact hK _ _ (gb_refl _ _) rfl
      -- 10: more.go:16 slice
      apply told_is
      · intro W f hW hE h0 K hK
        have e36 : f 36 = _ := hE 1 36 _ rfl (by kernel_rfl)
        have e37 : f 37 = _ := hE 0 37 _ rfl (by kernel_rfl)
        clear hE h0
        refine yes_of (want_free rfl) ?_
        go_simp; exact hK _ _ (gb_refl _ _) rfl
      -- 11: more.go:16 call
      apply told_is
      · intro W f hW hE h0 K hK
        have e34 : f 34 = _ := hE 4 34 _ rfl (by kernel_rfl)
        have e35 : f 35 = _ := hE 3 35 _ rfl (by kernel_rfl)
        have e38 : f 38 = _ := hE 0 38 _ rfl (by kernel_rfl)
        clear hE h0
        refine yes_of (want_free rfl) ?_
        go_simp
        refine (seal_any k o ⟨#[111, 116, 104, 101, 114]⟩ (a3.extract 0 m) _ (by decide) (hT2.keep hW (by simp)) (hB2.keep hW)).mono ?_
        rintro e w1 ⟨rfl, g⟩
        rw [HY.out]
        exact ⟨_, rfl, hK _ _ g rfl⟩
      -- 12: more.go:16 assign
      apply told_is
      · intro W f hW hE h0 K hK
        have e33 : f 33 = _ := hE 6 33 _ rfl (by kernel_rfl)
        clear hE h0
        refine yes_of (want_free rfl) ?_
        go_simp; exact hK _ _ (gb_refl _ _) rfl
      -- 13: more.go:16 assign
      apply told_is
      · intro W f hW hE h0 K hK
        have e39 : f 39 = _ := hE 1 39 _ rfl (by kernel_rfl)
        clear hE h0
        refine yes_of (want_free rfl) ?_
        go_simp; exact hK _ _ (gb_refl _ _) rfl
      intro W f hW hA
      simp only [lexIn, Act.put, List.setIfInBounds_toArray, List.set_cons_zero, List.set_cons_succ]
      have e12 : f 12 = _ := hA 1 (some 12) _ rfl
      rw [e12]
      have e13 : f 13 = _ := hA 0 (some 13) _ rfl
      rw [e13]
      clear hA
      have g3 := gb_none g2 hW
      clear hT2 hB2 g2 hW
      have tX : ((X.size : Int) != (m : Int) + 16) = false := by rw [HXs.out]; simp
      have tY : ((Y.size : Int) != (m : Int) + 16) = false := by rw [HYs.out]; simp
      go_wp2_with fail
      clear tX tY
      go_loopw [14] (fun i wr => ∃ j : Nat, j ≤ m ∧ i = .int .i64 j ∧ w.grownBy wr none) (fun i _ => m - (intOf i).toNat)
      case atStart => exact ⟨0, Nat.zero_le _, rfl, g3⟩
      case round =>
        clear g3
        obtain ⟨j, hj, rfl, hg⟩ := hrel
        by_cases hlt : j < m
        · have d1 : decide (j < m) = true := decide_eq_true hlt
          have d2 : decide ((j : Int) < (m : Int)) = true := decide_eq_true (by omega)
          have b0 : j < X.size := by rw [HXs.out]; omega
          have b1 : j < Y.size := by rw [HYs.out]; omega
          have b2 : j < a2.size := by omega
          have b3 : j < a3.size := by omega
          have bi0 : (j : Int) < (X.size : Int) := by omega
          have bi1 : (j : Int) < (Y.size : Int) := by omega
          have bi2 : (j : Int) < (a2.size : Int) := by omega
          have bi3 : (j : Int) < (a3.size : Int) := by omega
          have hv := HXY.out j hlt
          rw [← get_data X j b0, ← get_data Y j b1, ← get_data a2 j b2, ← get_data a3 j b3] at hv
          have n1 : (((X[j].toNat ^^^ Y[j].toNat : Nat) : Int) != ((a2[j].toNat ^^^ a3[j].toNat : Nat) : Int)) = false := by rw [← UInt8.toNat_xor, ← UInt8.toNat_xor, hv]; simp
          clear hv
          go_wp2_with fail
          go_quiet (fail)
          go_wp2_with fail
          go_roundw
          case rel => exact ⟨j + 1, by omega, by go_num, gb_drewN hg _⟩
          case measure => simp [intOf]; omega
        · have hjm : j = m := by omega
          subst hjm
          have d1 : decide (j < j) = false := by simp
          have d2 : decide ((j : Int) < (j : Int)) = false := by simp
          have hmk := Hmk.out wr
          have hrz : Row (wr.alloc (.cells (madeB j) 5)) wr.heap.size 5 ((List.replicate j (0 : UInt8)).map w8).toArray := by rw [← madeB_eq]; exact Row.new _ _ _
          have hcv := row_text hrz (List.length_replicate (n := j)) j
          rw [HO0.out] at hcv
          have ga := gb_alloc hg (.cells (madeB j) 5)
          have hTa := hT.keep ga (by simp)
          have hBa := hB.keep ga
          clear hrz hlt hj hma hmb
          go_wp2_with fail
          refine (seal_any k o ⟨#[]⟩ O0 _ (by decide) (by exact hTa) (by exact hBa)).mono ?_
          rintro e x4 ⟨rfl, g4⟩
          rw [HZ.out]
          have g5 := gb_none ga g4
          have hT5 := hT.keep g5 (by simp)
          have hB5 := hB.keep g5
          clear ga g4 hTa hBa hmk hcv hg
          go_wp2_with fail
          have hw : IntKind.i64.wrap ((j : Int) + 16) = (j : Int) + 16 := by rw [IntKind.wrap_i64]; omega
          have tz : ((Z.size : Int) == (j : Int) + 16) = true := by rw [HZs.out]; simp
          have z1 : (j : Int) ≤ (Z.size : Int) := by rw [HZs.out]; omega
          have z2 : j ≤ Z.size := by rw [HZs.out]; omega
          apply wp_region_told (le := fun a b => a.grownBy b none) [isV _, isV _, isV _, isV _, isV _, isV _, isV _, isV _, isV _, isV _, isV _, isV _, isV _, rowV j (List.replicate j 0), isV _, isV _, isV _, isV _, isV _, isV _, isV _, isV _]
          case hn => rfl
          case hm => kernel_rfl
          case hB => kernel_rfl
          case ht => exact fun _ _ _ h k => gb_none h k
          case hw => exact gb_drew (gb_refl _ _)
          -- 0: more.go:26 move
          apply told_is
          · intro W f hW hE h0 K hK
            have e15 := h0 15 (by kernel_rfl)
            conv at e15 => rhs; whnf
            clear hE h0
            refine yes_of (want_free rfl) ?_
            go_simp; exact hK _ _ (gb_refl _ _) rfl
          -- 1: more.go:26 call
          apply told_is
          · intro W f hW hE h0 K hK
            have e78 : f 78 = _ := hE 0 78 _ rfl (by kernel_rfl)
            clear hE h0
            refine yes_of (want_free rfl) ?_
            go_simp; exact hK _ _ (gb_refl _ _) rfl
          -- 2: more.go:26 move
          apply told_is
          · intro W f hW hE h0 K hK
            have e9 := h0 9 (by kernel_rfl)
            conv at e9 => rhs; whnf
            clear hE h0
            refine yes_of (want_free rfl) ?_
            go_simp; exact hK _ _ (gb_refl _ _) rfl
          -- 3: more.go:26 binOp
          apply told_is
          · intro W f hW hE h0 K hK
            have e80 : f 80 = _ := hE 0 80 _ rfl (by kernel_rfl)
            clear hE h0
            refine yes_of (want_free rfl) ?_
            go_simp; exact hK _ _ (gb_refl _ _) rfl
          -- 4: more.go:26 binOp
          apply told_is
          · intro W f hW hE h0 K hK
            have e79 : f 79 = _ := hE 2 79 _ rfl (by kernel_rfl)
            have e81 : f 81 = _ := hE 0 81 _ rfl (by kernel_rfl)
            clear hE h0
            refine yes_of (want_free rfl) ?_
            go_simp; exact hK _ _ (gb_refl _ _) rfl
          -- 5: more.go:26 move
          apply told_is
          · intro W f hW hE h0 K hK
            have e82 : f 82 = _ := hE 0 82 _ rfl (by kernel_rfl)
            clear hE h0
            refine yes_of (want_free rfl) ?_
            go_simp; exact hK _ _ (gb_refl _ _) rfl
          -- 6: more.go:26 move
          apply told_is
          · intro W f hW hE h0 K hK
            have e15 := h0 15 (by kernel_rfl)
            conv at e15 => rhs; whnf
            have e83 : f 83 = _ := hE 0 83 _ rfl (by kernel_rfl)
            clear hE h0
            refine yes_of (want_yes rfl rfl e83) ?_
            go_simp; exact hK _ _ (gb_refl _ _) rfl
          -- 7: more.go:26 move
          apply told_is
          · intro W f hW hE h0 K hK
            have e9 := h0 9 (by kernel_rfl)
            conv at e9 => rhs; whnf
            have e83 : f 83 = _ := hE 1 83 _ rfl (by kernel_rfl)
            clear hE h0
            refine yes_of (want_yes rfl rfl e83) ?_
            go_simp; exact hK _ _ (gb_refl _ _) rfl
          -- 8: more.go:26 slice
          apply told_is
          · intro W f hW hE h0 K hK
            have e84 : f 84 = _ := hE 1 84 _ rfl (by kernel_rfl)
            have e85 : f 85 = _ := hE 0 85 _ rfl (by kernel_rfl)
            have e83 : f 83 = _ := hE 2 83 _ rfl (by kernel_rfl)
            clear hE h0
            refine yes_of (want_yes rfl rfl e83) ?_
            go_simp
            rw [HZf.out]
            exact hK _ _ (gb_refl _ _) rfl
          -- 9: more.go:26 move
          apply told_is
          · intro W f hW hE h0 K hK
            have e10 := h0 10 (by kernel_rfl)
            conv at e10 => rhs; whnf
            have e83 : f 83 = _ := hE 3 83 _ rfl (by kernel_rfl)
            clear hE h0
            refine yes_of (want_yes rfl rfl e83) ?_
            go_simp; exact hK _ _ (gb_refl _ _) rfl
          -- 10: more.go:26 slice
          apply told_is
          · intro W f hW hE h0 K hK
            have e87 : f 87 = _ := hE 0 87 _ rfl (by kernel_rfl)
            have e83 : f 83 = _ := hE 4 83 _ rfl (by kernel_rfl)
            clear hE h0
            refine yes_of (want_yes rfl rfl e83) ?_
            go_simp; exact hK _ _ (gb_refl _ _) rfl
          -- 11: more.go:26 move
          apply told_is
          · intro W f hW hE h0 K hK
            have e11 := h0 11 (by kernel_rfl)
            conv at e11 => rhs; whnf
            have e83 : f 83 = _ := hE 5 83 _ rfl (by kernel_rfl)
            clear hE h0
            refine yes_of (want_yes rfl rfl e83) ?_
            go_simp; exact hK _ _ (gb_refl _ _) rfl
          -- 12: more.go:26 move
          apply told_is
          · intro W f hW hE h0 K hK
            have e9 := h0 9 (by kernel_rfl)
            conv at e9 => rhs; whnf
            have e83 : f 83 = _ := hE 6 83 _ rfl (by kernel_rfl)
            clear hE h0
            refine yes_of (want_yes rfl rfl e83) ?_
            go_simp; exact hK _ _ (gb_refl _ _) rfl
          -- 13: more.go:26 makeSlice
          apply told_at rowV_stays
          · intro W f hW hE h0 K hK
            have e90 : f 90 = _ := hE 0 90 _ rfl (by kernel_rfl)
            have e83 : f 83 = _ := hE 7 83 _ rfl (by kernel_rfl)
            clear hE h0
            refine yes_of (want_yes rfl rfl e83) ?_
            have hmm := Hmk.out W
            go_simp
            exact hK _ _ (gb_alloc (gb_refl _ _) _) ⟨_, rfl, by rw [← madeB_eq]; exact Row.new _ _ _⟩
          -- 14: more.go:26 convert
          apply told_is
          · intro W f hW hE h0 K hK
            have e91 := hE 0 91 _ rfl (by kernel_rfl)
            have e83 : f 83 = _ := hE 8 83 _ rfl (by kernel_rfl)
            clear hE h0
            refine yes_of (want_yes rfl rfl e83) ?_
            obtain ⟨g, ev, hr⟩ := e91
            have hc := row_text hr (List.length_replicate (n := j)) j
            rw [HO0.out] at hc
            go_simp
            exact hK _ _ (gb_refl _ _) rfl
          -- 15: more.go:26 call
          apply told_is
          · intro W f hW hE h0 K hK
            have e88 : f 88 = _ := hE 4 88 _ rfl (by kernel_rfl)
            have e89 : f 89 = _ := hE 3 89 _ rfl (by kernel_rfl)
            have e92 : f 92 = _ := hE 0 92 _ rfl (by kernel_rfl)
            have e83 : f 83 = _ := hE 9 83 _ rfl (by kernel_rfl)
            clear hE h0
            refine yes_of (want_yes rfl rfl e83) ?_
            go_simp
            refine (refXored k o O0 _ HO9.out).mono ?_
            rintro e w1 ⟨rfl, g⟩
            rw [HV.out]
            exact ⟨_, rfl, hK _ _ g rfl⟩
          -- 16: more.go:26 binOp
          apply told_is
          · intro W f hW hE h0 K hK
            have e86 : f 86 = _ := hE 7 86 _ rfl (by kernel_rfl)
            have e93 : f 93 = _ := hE 0 93 _ rfl (by kernel_rfl)
            have e83 : f 83 = _ := hE 10 83 _ rfl (by kernel_rfl)
            clear hE h0
            refine yes_of (want_yes rfl rfl e83) ?_
            go_simp; exact hK _ _ (gb_refl _ _) rfl
          -- 17: more.go:26 pick
          apply told_is
          · intro W f hW hE h0 K hK
            have e83 : f 83 = _ := hE 11 83 _ rfl (by kernel_rfl)
            have e94 : f 94 = _ := hE 0 94 _ rfl (by kernel_rfl)
            clear hE h0
            refine yes_of (want_free rfl) ?_
            go_simp; exact hK _ _ (gb_refl _ _) rfl
          -- 18: more.go:26 move
          apply told_is
          · intro W f hW hE h0 K hK
            have e95 : f 95 = _ := hE 0 95 _ rfl (by kernel_rfl)
            clear hE h0
            refine yes_of (want_free rfl) ?_
            go_simp; exact hK _ _ (gb_refl _ _) rfl
          -- 19: more.go:26 call
          apply told_is
          · intro W f hW hE h0 K hK
            have e96 : f 96 = _ := hE 0 96 _ rfl (by kernel_rfl)
            clear hE h0
            refine yes_of (want_yes rfl rfl e96) ?_
            go_simp
            refine (awake6_any _ (hT5.keep hW (by simp)) (hB5.keep hW)).mono ?_
            rintro e w1 ⟨rfl, g⟩
            exact ⟨_, rfl, hK _ _ g rfl⟩
          -- 20: more.go:26 pick
          apply told_is
          · intro W f hW hE h0 K hK
            have e96 : f 96 = _ := hE 1 96 _ rfl (by kernel_rfl)
            have e97 : f 97 = _ := hE 0 97 _ rfl (by kernel_rfl)
            clear hE h0
            refine yes_of (want_free rfl) ?_
            go_simp; exact hK _ _ (gb_refl _ _) rfl
          -- 21: more.go:26 assign
          apply told_is
          · intro W f hW hE h0 K hK
            have e98 : f 98 = _ := hE 0 98 _ rfl (by kernel_rfl)
            clear hE h0
            refine yes_of (want_free rfl) ?_
            go_simp; exact hK _ _ (gb_refl _ _) rfl
          intro W f hW hA
          simp only [lexIn, Act.put, List.setIfInBounds_toArray, List.set_cons_zero, List.set_cons_succ]
          have e8 : f 8 = _ := hA 0 (some 8) _ rfl
          rw [e8]
          clear hA
          go_wp2_with fail
          go_ret
          exact ⟨rfl, below_of (gb_none g5 hW)⟩
  · by_cases c1 : 200 < a2.size
    · have t1 : decide ((200 : Int) < (a2.size : Int)) = true := decide_eq_true (by omega)
      clear c1
      go_enter Tryd.func7, Tryd.ntmps7
      go_wp2_with fail
      refine (awake6_any _ hT hB).mono ?_
      rintro e x1 ⟨rfl, g1⟩
      go_wp2_with fail
      go_ret
      exact ⟨rfl, below_of g1⟩
    · have t1 : decide ((200 : Int) < (a2.size : Int)) = false := decide_eq_false (by omega)
      obtain ⟨m, hm⟩ : ∃ m, a2.size = m := ⟨_, rfl⟩
      have hma : m ≤ a2.size := by omega
      have hmb : m ≤ a3.size := by omega
      have hm2 : m ≤ 200 := by omega
      have Hm := Lib.hid hm
      clear c1 hm
      obtain ⟨X, HX⟩ : ∃ X : ByteArray, Hid (sealB k o ⟨#[]⟩ (a2.extract 0 m) = X) := ⟨_, rfl⟩
      obtain ⟨Y, HY⟩ : ∃ X : ByteArray, Hid (sealB k o ⟨#[111, 116, 104, 101, 114]⟩ (a3.extract 0 m) = X) := ⟨_, rfl⟩
      have hx1 : (a2.extract 0 m).size = m := by rw [ByteArray.size_extract]; omega
      have hx2 : (a3.extract 0 m).size = m := by rw [ByteArray.size_extract]; omega
      have hXs : X.size = m + 16 := by rw [← HX.out, sealB_size k o _ _ hk ho (by omega), hx1]
      have hYs : Y.size = m + 16 := by rw [← HY.out, sealB_size k o _ _ hk ho (by omega), hx2]
      have hXY : ∀ j, j < m → X.data.toList.getD j 0 ^^^ Y.data.toList.getD j 0 = a2.data.toList.getD j 0 ^^^ a3.data.toList.getD j 0 := fun j hj => by
        rw [← HX.out, ← HY.out]
        exact two_bytes k o _ _ a2 a3 m j hk ho (by omega) hma hmb hj
      obtain ⟨O0, HO0⟩ : ∃ O0 : ByteArray, Hid ((⟨(List.replicate m (0 : UInt8)).toArray⟩ : ByteArray) = O0) := ⟨_, rfl⟩
      have hO0 : O0.size = m := by rw [← HO0.out, ← Cc.len_data, Cc.ba, List.length_replicate]
      obtain ⟨Z, HZ⟩ : ∃ X : ByteArray, Hid (sealB k o ⟨#[]⟩ O0 = X) := ⟨_, rfl⟩
      obtain ⟨V, HV⟩ : ∃ X : ByteArray, Hid (xorB k o O0 = X) := ⟨_, rfl⟩
      have hZs : Z.size = m + 16 := by rw [← HZ.out, sealB_size k o _ _ hk ho (by omega), hO0]
      have hZf : Z.extract 0 m = V := by rw [← HZ.out, ← HV.out]; exact seal_front k o _ _ m hk ho hO0 (by omega)
      have hO9 : O0.size ≤ 9223372036854775807 := by omega
      have HO9 := Lib.hid hO9
      have hmk := makeB_at m (by omega)
      have Hmk := Lib.hid hmk
      have HXY := Lib.hid hXY
      have HXs := Lib.hid hXs
      have HYs := Lib.hid hYs
      have HZs := Lib.hid hZs
      have HZf := Lib.hid hZf
      have Hk := Lib.hid hk
      have Ho := Lib.hid ho
      have q2 : (m : Int) ≤ (a2.size : Int) := by omega
      have q3 : (m : Int) ≤ (a3.size : Int) := by omega
      have p1 : (32 : Int) ≤ (k.size : Int) := by omega
      have p2 : 32 ≤ k.size := by omega
      clear hx1 hx2 hXs hYs hXY hO0 hZs hZf hO9 hmk hk ho
      go_enter Tryd.func7, Tryd.ntmps7
      go_wp2_with fail
      rw [Hm.out]
      clear Hm hlt t1
      refine (Cc.bytes_any a0 len0 cap0 64 b0 _ hb0 hl0 (by decide)).mono ?_
      rintro e x1 ⟨rfl, g1⟩
      rw [HK.out]
      go_wp2_with fail
      refine (Cc.bytes_any a1 len1 cap1 12 b1 _ (hb1.keep g1) hl1 (by decide)).mono ?_
      rintro e x2 ⟨rfl, g2⟩
      rw [HN.out]
      replace g2 := gb_none g1 g2
      have hT2 := hT.keep g2 (by simp)
      have hB2 := hB.keep g2
      clear g1
      go_wp2_with fail
      apply wp_region_told (le := fun a b => a.grownBy b none) [isV _, isV _, isV _, isV _, isV _, isV _, isV _, isV _, isV _, isV _, isV _, isV _, isV _, isV _]
      case hn => rfl
      case hm => kernel_rfl
      case hB => kernel_rfl
      case ht => exact fun _ _ _ h k => gb_none h k
      case hw => exact gb_drew (gb_refl _ _)
      -- 0: more.go:16 move
      apply told_is
      · intro W f hW hE h0 K hK
        have e10 := h0 10 (by kernel_rfl)
        conv at e10 => rhs; whnf
        clear hE h0
        refine yes_of (want_free rfl) ?_
        go_simp; exact hK _ _ (gb_refl _ _) rfl
      -- 1: more.go:16 move
      apply told_is
      · intro W f hW hE h0 K hK
        have e11 := h0 11 (by kernel_rfl)
        conv at e11 => rhs; whnf
        clear hE h0
        refine yes_of (want_free rfl) ?_
        go_simp; exact hK _ _ (gb_refl _ _) rfl
      -- 2: more.go:16 move
      apply told_is
      · intro W f hW hE h0 K hK
        have e2 := h0 2 (by kernel_rfl)
        conv at e2 => rhs; whnf
        clear hE h0
        refine yes_of (want_free rfl) ?_
        go_simp; exact hK _ _ (gb_refl _ _) rfl
      -- 3: more.go:16 move
      apply told_is
      · intro W f hW hE h0 K hK
        have e9 := h0 9 (by kernel_rfl)
        conv at e9 => rhs; whnf
        clear hE h0
        refine yes_of (want_free rfl) ?_
        go_simp; exact hK _ _ (gb_refl _ _) rfl
      -- 4: more.go:16 slice
      apply told_is
      · intro W f hW hE h0 K hK
        have e30 : f 30 = _ := hE 1 30 _ rfl (by kernel_rfl)
        have e31 : f 31 = _ := hE 0 31 _ rfl (by kernel_rfl)
        clear hE h0
        refine yes_of (want_free rfl) ?_
        go_simp; exact hK _ _ (gb_refl _ _) rfl
      -- 5: more.go:16 call
      apply told_is
      · intro W f hW hE h0 K hK
        have e28 : f 28 = _ := hE 4 28 _ rfl (by kernel_rfl)
        have e29 : f 29 = _ := hE 3 29 _ rfl (by kernel_rfl)
        have e32 : f 32 = _ := hE 0 32 _ rfl (by kernel_rfl)
        clear hE h0
        refine yes_of (want_free rfl) ?_
        go_simp
        refine (seal_any k o ⟨#[]⟩ (a2.extract 0 m) _ (by decide) (hT2.keep hW (by simp)) (hB2.keep hW)).mono ?_
        rintro e w1 ⟨rfl, g⟩
        rw [HX.out]
        exact ⟨_, rfl, hK _ _ g rfl⟩
      -- 6: more.go:16 move
      apply told_is
      · intro W f hW hE h0 K hK
        have e10 := h0 10 (by kernel_rfl)
        conv at e10 => rhs; whnf
        clear hE h0
        refine yes_of (want_free rfl) ?_
        go_simp; exact hK _ _ (gb_refl _ _) rfl
      -- 7: more.go:16 move
      apply told_is
      · intro W f hW hE h0 K hK
        have e11 := h0 11 (by kernel_rfl)
        conv at e11 => rhs; whnf
        clear hE h0
        refine yes_of (want_free rfl) ?_
        go_simp; exact hK _ _ (gb_refl _ _) rfl
      -- 8: more.go:16 move
      apply told_is
      · intro W f hW hE h0 K hK
        have e3 := h0 3 (by kernel_rfl)
        conv at e3 => rhs; whnf
        clear hE h0
        refine yes_of (want_free rfl) ?_
        go_simp; exact hK _ _ (gb_refl _ _) rfl
      -- 9: more.go:16 move
      apply told_is
      · intro W f hW hE h0 K hK
        have e9 := h0 9 (by kernel_rfl)
        conv at e9 => rhs; whnf
        clear hE h0
        refine yes_of (want_free rfl) ?_
        go_simp; exact hK _ _ (gb_refl _ _) rfl
      -- 10: more.go:16 slice
      apply told_is
      · intro W f hW hE h0 K hK
        have e36 : f 36 = _ := hE 1 36 _ rfl (by kernel_rfl)
        have e37 : f 37 = _ := hE 0 37 _ rfl (by kernel_rfl)
        clear hE h0
        refine yes_of (want_free rfl) ?_
        go_simp; exact hK _ _ (gb_refl _ _) rfl
      -- 11: more.go:16 call
      apply told_is
      · intro W f hW hE h0 K hK
        have e34 : f 34 = _ := hE 4 34 _ rfl (by kernel_rfl)
        have e35 : f 35 = _ := hE 3 35 _ rfl (by kernel_rfl)
        have e38 : f 38 = _ := hE 0 38 _ rfl (by kernel_rfl)
        clear hE h0
        refine yes_of (want_free rfl) ?_
        go_simp
        refine (seal_any k o ⟨#[111, 116, 104, 101, 114]⟩ (a3.extract 0 m) _ (by decide) (hT2.keep hW (by simp)) (hB2.keep hW)).mono ?_
        rintro e w1 ⟨rfl, g⟩
        rw [HY.out]
        exact ⟨_, rfl, hK _ _ g rfl⟩
      -- 12: more.go:16 assign
      apply told_is
      · intro W f hW hE h0 K hK
        have e33 : f 33 = _ := hE 6 33 _ rfl (by kernel_rfl)
        clear hE h0
        refine yes_of (want_free rfl) ?_
        go_simp; exact hK _ _ (gb_refl _ _) rfl
      -- 13: more.go:16 assign
      apply told_is
      · intro W f hW hE h0 K hK
        have e39 : f 39 = _ := hE 1 39 _ rfl (by kernel_rfl)
        clear hE h0
        refine yes_of (want_free rfl) ?_
        go_simp; exact hK _ _ (gb_refl _ _) rfl
      intro W f hW hA
      simp only [lexIn, Act.put, List.setIfInBounds_toArray, List.set_cons_zero, List.set_cons_succ]
      have e12 : f 12 = _ := hA 1 (some 12) _ rfl
      rw [e12]
      have e13 : f 13 = _ := hA 0 (some 13) _ rfl
      rw [e13]
      clear hA
      have g3 := gb_none g2 hW
      clear hT2 hB2 g2 hW
      have tX : ((X.size : Int) != (m : Int) + 16) = false := by rw [HXs.out]; simp
      have tY : ((Y.size : Int) != (m : Int) + 16) = false := by rw [HYs.out]; simp
      go_wp2_with fail
      clear tX tY
      go_loopw [14] (fun i wr => ∃ j : Nat, j ≤ m ∧ i = .int .i64 j ∧ w.grownBy wr none) (fun i _ => m - (intOf i).toNat)
      case atStart => exact ⟨0, Nat.zero_le _, rfl, g3⟩
      case round =>
        clear g3
        obtain ⟨j, hj, rfl, hg⟩ := hrel
        by_cases hlt : j < m
        · have d1 : decide (j < m) = true := decide_eq_true hlt
          have d2 : decide ((j : Int) < (m : Int)) = true := decide_eq_true (by omega)
          have b0 : j < X.size := by rw [HXs.out]; omega
          have b1 : j < Y.size := by rw [HYs.out]; omega
          have b2 : j < a2.size := by omega
          have b3 : j < a3.size := by omega
          have bi0 : (j : Int) < (X.size : Int) := by omega
          have bi1 : (j : Int) < (Y.size : Int) := by omega
          have bi2 : (j : Int) < (a2.size : Int) := by omega
          have bi3 : (j : Int) < (a3.size : Int) := by omega
          have hv := HXY.out j hlt
          rw [← get_data X j b0, ← get_data Y j b1, ← get_data a2 j b2, ← get_data a3 j b3] at hv
          have n1 : (((X[j].toNat ^^^ Y[j].toNat : Nat) : Int) != ((a2[j].toNat ^^^ a3[j].toNat : Nat) : Int)) = false := by rw [← UInt8.toNat_xor, ← UInt8.toNat_xor, hv]; simp
          clear hv
          go_wp2_with fail
          go_quiet (fail)
          go_wp2_with fail
          go_roundw
          case rel => exact ⟨j + 1, by omega, by go_num, gb_drewN hg _⟩
          case measure => simp [intOf]; omega
        · have hjm : j = m := by omega
          subst hjm
          have d1 : decide (j < j) = false := by simp
          have d2 : decide ((j : Int) < (j : Int)) = false := by simp
          have hmk := Hmk.out wr
          have hrz : Row (wr.alloc (.cells (madeB j) 5)) wr.heap.size 5 ((List.replicate j (0 : UInt8)).map w8).toArray := by rw [← madeB_eq]; exact Row.new _ _ _
          have hcv := row_text hrz (List.length_replicate (n := j)) j
          rw [HO0.out] at hcv
          have ga := gb_alloc hg (.cells (madeB j) 5)
          have hTa := hT.keep ga (by simp)
          have hBa := hB.keep ga
          clear hrz hlt hj hma hmb
          go_wp2_with fail
          refine (seal_any k o ⟨#[]⟩ O0 _ (by decide) (by exact hTa) (by exact hBa)).mono ?_
          rintro e x4 ⟨rfl, g4⟩
          rw [HZ.out]
          have g5 := gb_none ga g4
          have hT5 := hT.keep g5 (by simp)
          have hB5 := hB.keep g5
          clear ga g4 hTa hBa hmk hcv hg
          go_wp2_with fail
          have hw : IntKind.i64.wrap ((j : Int) + 16) = (j : Int) + 16 := by rw [IntKind.wrap_i64]; omega
          have tz : ((Z.size : Int) == (j : Int) + 16) = true := by rw [HZs.out]; simp
          have z1 : (j : Int) ≤ (Z.size : Int) := by rw [HZs.out]; omega
          have z2 : j ≤ Z.size := by rw [HZs.out]; omega
          apply wp_region_told (le := fun a b => a.grownBy b none) [isV _, isV _, isV _, isV _, isV _, isV _, isV _, isV _, isV _, isV _, isV _, isV _, isV _, rowV j (List.replicate j 0), isV _, isV _, isV _, isV _, isV _, isV _, isV _, isV _]
          case hn => rfl
          case hm => kernel_rfl
          case hB => kernel_rfl
          case ht => exact fun _ _ _ h k => gb_none h k
          case hw => exact gb_drew (gb_refl _ _)
          -- 0: more.go:26 move
          apply told_is
          · intro W f hW hE h0 K hK
            have e15 := h0 15 (by kernel_rfl)
            conv at e15 => rhs; whnf
            clear hE h0
            refine yes_of (want_free rfl) ?_
            go_simp; exact hK _ _ (gb_refl _ _) rfl
          -- 1: more.go:26 call
          apply told_is
          · intro W f hW hE h0 K hK
            have e78 : f 78 = _ := hE 0 78 _ rfl (by kernel_rfl)
            clear hE h0
            refine yes_of (want_free rfl) ?_
            go_simp; exact hK _ _ (gb_refl _ _) rfl
          -- 2: more.go:26 move
          apply told_is
          · intro W f hW hE h0 K hK
            have e9 := h0 9 (by kernel_rfl)
            conv at e9 => rhs; whnf
            clear hE h0
            refine yes_of (want_free rfl) ?_
            go_simp; exact hK _ _ (gb_refl _ _) rfl
          -- 3: more.go:26 binOp
          apply told_is
          · intro W f hW hE h0 K hK
            have e80 : f 80 = _ := hE 0 80 _ rfl (by kernel_rfl)
            clear hE h0
            refine yes_of (want_free rfl) ?_
            go_simp; exact hK _ _ (gb_refl _ _) rfl
          -- 4: more.go:26 binOp
          apply told_is
          · intro W f hW hE h0 K hK
            have e79 : f 79 = _ := hE 2 79 _ rfl (by kernel_rfl)
            have e81 : f 81 = _ := hE 0 81 _ rfl (by kernel_rfl)
            clear hE h0
            refine yes_of (want_free rfl) ?_
            go_simp; exact hK _ _ (gb_refl _ _) rfl
          -- 5: more.go:26 move
          apply told_is
          · intro W f hW hE h0 K hK
            have e82 : f 82 = _ := hE 0 82 _ rfl (by kernel_rfl)
            clear hE h0
            refine yes_of (want_free rfl) ?_
            go_simp; exact hK _ _ (gb_refl _ _) rfl
          -- 6: more.go:26 move
          apply told_is
          · intro W f hW hE h0 K hK
            have e15 := h0 15 (by kernel_rfl)
            conv at e15 => rhs; whnf
            have e83 : f 83 = _ := hE 0 83 _ rfl (by kernel_rfl)
            clear hE h0
            refine yes_of (want_yes rfl rfl e83) ?_
            go_simp; exact hK _ _ (gb_refl _ _) rfl
          -- 7: more.go:26 move
          apply told_is
          · intro W f hW hE h0 K hK
            have e9 := h0 9 (by kernel_rfl)
            conv at e9 => rhs; whnf
            have e83 : f 83 = _ := hE 1 83 _ rfl (by kernel_rfl)
            clear hE h0
            refine yes_of (want_yes rfl rfl e83) ?_
            go_simp; exact hK _ _ (gb_refl _ _) rfl
          -- 8: more.go:26 slice
          apply told_is
          · intro W f hW hE h0 K hK
            have e84 : f 84 = _ := hE 1 84 _ rfl (by kernel_rfl)
            have e85 : f 85 = _ := hE 0 85 _ rfl (by kernel_rfl)
            have e83 : f 83 = _ := hE 2 83 _ rfl (by kernel_rfl)
            clear hE h0
            refine yes_of (want_yes rfl rfl e83) ?_
            go_simp
            rw [HZf.out]
            exact hK _ _ (gb_refl _ _) rfl
          -- 9: more.go:26 move
          apply told_is
          · intro W f hW hE h0 K hK
            have e10 := h0 10 (by kernel_rfl)
            conv at e10 => rhs; whnf
            have e83 : f 83 = _ := hE 3 83 _ rfl (by kernel_rfl)
            clear hE h0
            refine yes_of (want_yes rfl rfl e83) ?_
            go_simp; exact hK _ _ (gb_refl _ _) rfl
          -- 10: more.go:26 slice
          apply told_is
          · intro W f hW hE h0 K hK
            have e87 : f 87 = _ := hE 0 87 _ rfl (by kernel_rfl)
            have e83 : f 83 = _ := hE 4 83 _ rfl (by kernel_rfl)
            clear hE h0
            refine yes_of (want_yes rfl rfl e83) ?_
            go_simp; exact hK _ _ (gb_refl _ _) rfl
          -- 11: more.go:26 move
          apply told_is
          · intro W f hW hE h0 K hK
            have e11 := h0 11 (by kernel_rfl)
            conv at e11 => rhs; whnf
            have e83 : f 83 = _ := hE 5 83 _ rfl (by kernel_rfl)
            clear hE h0
            refine yes_of (want_yes rfl rfl e83) ?_
            go_simp; exact hK _ _ (gb_refl _ _) rfl
          -- 12: more.go:26 move
          apply told_is
          · intro W f hW hE h0 K hK
            have e9 := h0 9 (by kernel_rfl)
            conv at e9 => rhs; whnf
            have e83 : f 83 = _ := hE 6 83 _ rfl (by kernel_rfl)
            clear hE h0
            refine yes_of (want_yes rfl rfl e83) ?_
            go_simp; exact hK _ _ (gb_refl _ _) rfl
          -- 13: more.go:26 makeSlice
          apply told_at rowV_stays
          · intro W f hW hE h0 K hK
            have e90 : f 90 = _ := hE 0 90 _ rfl (by kernel_rfl)
            have e83 : f 83 = _ := hE 7 83 _ rfl (by kernel_rfl)
            clear hE h0
            refine yes_of (want_yes rfl rfl e83) ?_
            have hmm := Hmk.out W
            go_simp
            exact hK _ _ (gb_alloc (gb_refl _ _) _) ⟨_, rfl, by rw [← madeB_eq]; exact Row.new _ _ _⟩
          -- 14: more.go:26 convert
          apply told_is
          · intro W f hW hE h0 K hK
            have e91 := hE 0 91 _ rfl (by kernel_rfl)
            have e83 : f 83 = _ := hE 8 83 _ rfl (by kernel_rfl)
            clear hE h0
            refine yes_of (want_yes rfl rfl e83) ?_
            obtain ⟨g, ev, hr⟩ := e91
            have hc := row_text hr (List.length_replicate (n := j)) j
            rw [HO0.out] at hc
            go_simp
            exact hK _ _ (gb_refl _ _) rfl
          -- 15: more.go:26 call
          apply told_is
          · intro W f hW hE h0 K hK
            have e88 : f 88 = _ := hE 4 88 _ rfl (by kernel_rfl)
            have e89 : f 89 = _ := hE 3 89 _ rfl (by kernel_rfl)
            have e92 : f 92 = _ := hE 0 92 _ rfl (by kernel_rfl)
            have e83 : f 83 = _ := hE 9 83 _ rfl (by kernel_rfl)
            clear hE h0
            refine yes_of (want_yes rfl rfl e83) ?_
            go_simp
            refine (refXored k o O0 _ HO9.out).mono ?_
            rintro e w1 ⟨rfl, g⟩
            rw [HV.out]
            exact ⟨_, rfl, hK _ _ g rfl⟩
          -- 16: more.go:26 binOp
          apply told_is
          · intro W f hW hE h0 K hK
            have e86 : f 86 = _ := hE 7 86 _ rfl (by kernel_rfl)
            have e93 : f 93 = _ := hE 0 93 _ rfl (by kernel_rfl)
            have e83 : f 83 = _ := hE 10 83 _ rfl (by kernel_rfl)
            clear hE h0
            refine yes_of (want_yes rfl rfl e83) ?_
            go_simp; exact hK _ _ (gb_refl _ _) rfl
          -- 17: more.go:26 pick
          apply told_is
          · intro W f hW hE h0 K hK
            have e83 : f 83 = _ := hE 11 83 _ rfl (by kernel_rfl)
            have e94 : f 94 = _ := hE 0 94 _ rfl (by kernel_rfl)
            clear hE h0
            refine yes_of (want_free rfl) ?_
            go_simp; exact hK _ _ (gb_refl _ _) rfl
          -- 18: more.go:26 move
          apply told_is
          · intro W f hW hE h0 K hK
            have e95 : f 95 = _ := hE 0 95 _ rfl (by kernel_rfl)
            clear hE h0
            refine yes_of (want_free rfl) ?_
            go_simp; exact hK _ _ (gb_refl _ _) rfl
          -- 19: more.go:26 call
          apply told_is
          · intro W f hW hE h0 K hK
            have e96 : f 96 = _ := hE 0 96 _ rfl (by kernel_rfl)
            clear hE h0
            refine yes_of (want_yes rfl rfl e96) ?_
            go_simp
            refine (awake6_any _ (hT5.keep hW (by simp)) (hB5.keep hW)).mono ?_
            rintro e w1 ⟨rfl, g⟩
            exact ⟨_, rfl, hK _ _ g rfl⟩
          -- 20: more.go:26 pick
          apply told_is
          · intro W f hW hE h0 K hK
            have e96 : f 96 = _ := hE 1 96 _ rfl (by kernel_rfl)
            have e97 : f 97 = _ := hE 0 97 _ rfl (by kernel_rfl)
            clear hE h0
            refine yes_of (want_free rfl) ?_
            go_simp; exact hK _ _ (gb_refl _ _) rfl
          -- 21: more.go:26 assign
          apply told_is
          · intro W f hW hE h0 K hK
            have e98 : f 98 = _ := hE 0 98 _ rfl (by kernel_rfl)
            clear hE h0
            refine yes_of (want_free rfl) ?_
            go_simp; exact hK _ _ (gb_refl _ _) rfl
          intro W f hW hA
          simp only [lexIn, Act.put, List.setIfInBounds_toArray, List.set_cons_zero, List.set_cons_succ]
          have e8 : f 8 = _ := hA 0 (some 8) _ rfl
          rw [e8]
          clear hA
          go_wp2_with fail
          go_ret
          exact ⟨rfl, below_of (gb_none g5 hW)⟩

def zs1 : List Int := [1779033703, 3144134277, 1013904242, 2773480762, 1359893119, 2600822924, 528734635, 1541459225]
def zs2 : List Int := [1116352408, 1899447441, 3049323471, 3921009573, 961987163, 1508970993, 2453635748, 2870763221, 3624381080, 310598401, 607225278, 1426881987, 1925078388, 2162078206, 2614888103, 3248222580, 3835390401, 4022224774, 264347078, 604807628, 770255983, 1249150122, 1555081692, 1996064986, 2554220882, 2821834349, 2952996808, 3210313671, 3336571891, 3584528711, 113926993, 338241895, 666307205, 773529912, 1294757372, 1396182291, 1695183700, 1986661051, 2177026350, 2456956037, 2730485921, 2820302411, 3259730800, 3345764771, 3516065817, 3600352804, 4094571909, 275423344, 430227734, 506948616, 659060556, 883997877, 958139571, 1322822218, 1537002063, 1747873779, 1955562222, 2024104815, 2227730452, 2361852424, 2428436474, 2756734187, 3204031479, 3329325298]
theorem tabs {W : World} (h : laidMetH Tryd.prog Rows.boxStreamRow.laid W) : Tabs W := by
  have h1 : Lib.TabIs Tryd.prog W "deaddrop/sha.opening" .u32 zs1 := Lib.tabIs_of_head (rest := [("deaddrop/sha.roundNumbers", Rows.laid_deaddrop_sha_roundNumbers), ("deaddrop/box.errKey", Rows.laid_deaddrop_box_errKey), ("deaddrop/box.errNonce", Rows.laid_deaddrop_box_errNonce), ("deaddrop/box.errShort", Rows.laid_deaddrop_box_errShort), ("deaddrop/box.errLong", Rows.laid_deaddrop_box_errLong), ("deaddrop/box.errTag", Rows.laid_deaddrop_box_errTag)]) (g := 5) (t := 98) (e := 56) (n := 8) (by kernel_rfl) (by kernel_rfl) Tryd.underlying98 Tryd.underlying56 (by kernel_rfl) (by kernel_rfl) h
  have h2 : Lib.TabIs Tryd.prog W "deaddrop/sha.roundNumbers" .u32 zs2 := Lib.tabIs_of_head (rest := []) (g := 6) (t := 110) (e := 56) (n := 64) (by kernel_rfl) (by kernel_rfl) Tryd.underlying110 Tryd.underlying56 (by kernel_rfl) (by kernel_rfl) (laidMetH.filter (fun x => x.1 == "deaddrop/sha.roundNumbers") h)
  have e1 : ∀ i, i < 8 → zs1.getD i 0 = ((firstH.getD i 0).toNat : Int) := by decide
  have e2 : ∀ i, i < 64 → zs2.getD i 0 = ((konst.getD i 0).toNat : Int) := by decide +kernel
  have c1 : ∀ i, i < 8 → W.cell? ⟨5, i, none⟩ = some (w32 (firstH.getD i 0)) := fun i hi => by
    have := h1.cell (g := 5) (by kernel_rfl) i (by rw [show zs1.length = 8 from rfl]; exact hi)
    rw [e1 i hi] at this; exact this
  have c2 : ∀ i, i < 64 → W.cell? ⟨6, i, none⟩ = some (w32 (konst.getD i 0)) := fun i hi => by
    have := h2.cell (g := 6) (by kernel_rfl) i (by rw [show zs2.length = 64 from rfl]; exact hi)
    rw [e2 i hi] at this; exact this
  exact ⟨block_lt_of_cell (c2 0 (by decide)), c1, c2⟩

theorem star : "*" ++ "errors.errorString" = "*errors.errorString" := by decide
theorem row_err (u : TypeId) (h : Tryd.prog.typeName? 3 u = some "*errors.errorString") : u = 113 :=
  typeName_ptr_named (nm := "errors.errorString") (by rw [star]; kernel_rfl) (by kernel_rfl) (by decide) u (by rw [star]; exact h)
theorem pair0 {W : World} (h : laidMetH Tryd.prog Rows.boxStreamRow.laid W) : Bx.BE W 3 ∧ Bx.BE W 4 := by
  have h4 : laidMet Tryd.prog [("deaddrop/box.errKey", Rows.laid_deaddrop_box_errKey), ("deaddrop/box.errNonce", Rows.laid_deaddrop_box_errNonce)] W := (laidMetH_iff.1 (laidMetH.filter (fun x => x.1 == "deaddrop/box.errKey" || x.1 == "deaddrop/box.errNonce") h)).1
  obtain ⟨a0, a1, s0, s1, c0, c1, t0, t1, hv0, hv1, hc0, hs0, hz0, hc1, hs1, hz1, hne, hb0, hb1⟩ := laid_sentinels2 h4 (g0 := 3) (g1 := 4) (ti := 41) (by kernel_rfl) (by kernel_rfl) (by kernel_rfl) (by kernel_rfl) Tryd.underlying41 row_err Tryd.underlying113 Tryd.underlying137 rfl rfl Tryd.underlying9 (by kernel_rfl) (by kernel_rfl)
  exact ⟨⟨a0, c0, t0, by simpa using World.var?_cell (g := 3) (by kernel_rfl) hv0 0, hb0⟩, ⟨a1, c1, t1, by simpa using World.var?_cell (g := 4) (by kernel_rfl) hv1 0, hb1⟩⟩
theorem pair1 {W : World} (h : laidMetH Tryd.prog Rows.boxStreamRow.laid W) : Bx.BE W 0 ∧ Bx.BE W 1 := by
  have h4 : laidMet Tryd.prog [("deaddrop/box.errShort", Rows.laid_deaddrop_box_errShort), ("deaddrop/box.errLong", Rows.laid_deaddrop_box_errLong)] W := (laidMetH_iff.1 (laidMetH.filter (fun x => x.1 == "deaddrop/box.errShort" || x.1 == "deaddrop/box.errLong") h)).1
  obtain ⟨a0, a1, s0, s1, c0, c1, t0, t1, hv0, hv1, hc0, hs0, hz0, hc1, hs1, hz1, hne, hb0, hb1⟩ := laid_sentinels2 h4 (g0 := 0) (g1 := 1) (ti := 41) (by kernel_rfl) (by kernel_rfl) (by kernel_rfl) (by kernel_rfl) Tryd.underlying41 row_err Tryd.underlying113 Tryd.underlying137 rfl rfl Tryd.underlying9 (by kernel_rfl) (by kernel_rfl)
  exact ⟨⟨a0, c0, t0, by simpa using World.var?_cell (g := 0) (by kernel_rfl) hv0 0, hb0⟩, ⟨a1, c1, t1, by simpa using World.var?_cell (g := 1) (by kernel_rfl) hv1 0, hb1⟩⟩
theorem pair2 {W : World} (h : laidMetH Tryd.prog Rows.boxStreamRow.laid W) : Bx.BE W 1 ∧ Bx.BE W 2 := by
  have h4 : laidMet Tryd.prog [("deaddrop/box.errLong", Rows.laid_deaddrop_box_errLong), ("deaddrop/box.errTag", Rows.laid_deaddrop_box_errTag)] W := (laidMetH_iff.1 (laidMetH.filter (fun x => x.1 == "deaddrop/box.errLong" || x.1 == "deaddrop/box.errTag") h)).1
  obtain ⟨a0, a1, s0, s1, c0, c1, t0, t1, hv0, hv1, hc0, hs0, hz0, hc1, hs1, hz1, hne, hb0, hb1⟩ := laid_sentinels2 h4 (g0 := 1) (g1 := 2) (ti := 41) (by kernel_rfl) (by kernel_rfl) (by kernel_rfl) (by kernel_rfl) Tryd.underlying41 row_err Tryd.underlying113 Tryd.underlying137 rfl rfl Tryd.underlying9 (by kernel_rfl) (by kernel_rfl)
  exact ⟨⟨a0, c0, t0, by simpa using World.var?_cell (g := 1) (by kernel_rfl) hv0 0, hb0⟩, ⟨a1, c1, t1, by simpa using World.var?_cell (g := 2) (by kernel_rfl) hv1 0, hb1⟩⟩
theorem berrs {W : World} (h : laidMetH Tryd.prog Rows.boxStreamRow.laid W) : Bx.BErrs W := ⟨(pair0 h).1, (pair0 h).2, (pair1 h).1, (pair1 h).2, (pair2 h).2⟩

set_option maxRecDepth 100000 in
theorem contract (H : Type) (enc : TypeId × Value → H) (W : World) (base : Nat) (args : Array Value) (ds gs : List (DataW H)) (before : List MemPlace)
    (hval0 : ∀ (j : Nat) t v, Tryd.f7.params[j]? = some t → args[j]? = some v → Value.okWide Tryd.prog W .any base t v)
    (hW : DataW.Whole enc Tryd.prog Tryd.f7.params.toList Rows.boxStreamSpec.vars false W args.toList ds gs before) (hL : laidMetH Tryd.prog Rows.boxStreamRow.laid W) :
    Calls Tryd.prog 7 args W fun e W' => ∃ v, e = .returned v ∧ Rows.boxStreamSpec.post enc Tryd.prog Tryd.f7 false true false false W args v W' := by
  have hval : ∀ (j : Nat) t v, Tryd.f7.params[j]? = some t → args[j]? = some v → Value.okWide Tryd.prog W .any base t v := hval0
  have hW' := hW
  obtain ⟨p, q, hA0, hV, rfl, hfz, hnd⟩ := hW
  have hA : DataW.TrodAll enc Tryd.prog W 0 (fun _ => true) true Tryd.f7.params.toList args.toList ds p := hA0
  rw [Tryd.params7] at hA hval
  obtain ⟨v0, vs0, d0, ds0, p0, q0, hargs, rfl, rfl, h0, r0⟩ := trodAll_cons hA
  obtain ⟨v1, vs1, d1, ds1, p1, q1, rfl, rfl, rfl, h1, r1⟩ := trodAll_cons r0
  obtain ⟨v2, vs2, d2, ds2, p2, q2, rfl, rfl, rfl, h2, r2⟩ := trodAll_cons r1
  obtain ⟨v3, vs3, d3, ds3, p3, q3, rfl, rfl, rfl, h3, r3⟩ := trodAll_cons r2
  obtain ⟨rfl, rfl, rfl⟩ := trodAll_nil r3
  obtain rfl : args = #[v0, v1, v2, v3] := by cases args; simp_all
  obtain ⟨rfl, rfl⟩ := trodVars_none hV
  obtain ⟨a0, len0, cap0, rfl⟩ := okWide_slice Tryd.underlying30 (hval 0 30 v0 rfl rfl)
  have k0 := h0
  have lt0 : ∀ x ∈ p0, x.block < W.heap.size := by obtain ⟨m, hm⟩ := k0; exact DataW.trod_lt m _ _ _ hm
  obtain ⟨z0, w0⟩ : ∃ zs, IsRow .u8 W a0 len0 cap0 zs := by
    obtain ⟨fuel, hf⟩ := h0
    rcases open_ints Tryd.underlying30 Tryd.underlying5 (by kernel_rfl) hf with ⟨hcs, _⟩ | ⟨x, l, c, zs, hcs, _, hl, hm, hz, _, hcell, hwz⟩
    · simp [Value.cells] at hcs
      obtain ⟨rfl, rfl, rfl⟩ := hcs
      exact ⟨[], .inl ⟨rfl, rfl, rfl, rfl⟩⟩
    · simp [Value.cells] at hcs
      obtain ⟨rfl, rfl, rfl⟩ := hcs
      exact ⟨zs, .inr ⟨_, rfl, hl, hm, by simpa using hz, hcell, hwz⟩⟩
  obtain ⟨a1, len1, cap1, rfl⟩ := okWide_slice Tryd.underlying30 (hval 1 30 v1 rfl rfl)
  have k1 := h1
  have lt1 : ∀ x ∈ p1, x.block < W.heap.size := by obtain ⟨m, hm⟩ := k1; exact DataW.trod_lt m _ _ _ hm
  obtain ⟨z1, w1⟩ : ∃ zs, IsRow .u8 W a1 len1 cap1 zs := by
    obtain ⟨fuel, hf⟩ := h1
    rcases open_ints Tryd.underlying30 Tryd.underlying5 (by kernel_rfl) hf with ⟨hcs, _⟩ | ⟨x, l, c, zs, hcs, _, hl, hm, hz, _, hcell, hwz⟩
    · simp [Value.cells] at hcs
      obtain ⟨rfl, rfl, rfl⟩ := hcs
      exact ⟨[], .inl ⟨rfl, rfl, rfl, rfl⟩⟩
    · simp [Value.cells] at hcs
      obtain ⟨rfl, rfl, rfl⟩ := hcs
      exact ⟨zs, .inr ⟨_, rfl, hl, hm, by simpa using hz, hcell, hwz⟩⟩
  obtain ⟨a2, rfl, rfl, rfl, w2⟩ := open_string Tryd.underlying9 (hval 2 9 v2 rfl rfl) h2
  obtain ⟨a3, rfl, rfl, rfl, w3⟩ := open_string Tryd.underlying9 (hval 3 9 v3 rfl rfl) h3
  clear hA0 hval0
  refine (walk a0 len0 cap0 z0 a1 len1 cap1 z1 a2 a3 W w0 w1 w2 w3 (tabs hL) (berrs hL)).mono fun e W' ⟨he, bel⟩ => ?_
  subst he
  exact ⟨_, rfl, _, _, _, [], _, [], hW', trodAll_mk1 (shut_bool Tryd.underlying4 _), (trodAll_cons_mk (Below.trod laidOut (by kernel_rfl) (of_decide_eq_true (by kernel_rfl)) k0 bel lt0) (trodAll_cons_mk (Below.trod laidOut (by kernel_rfl) (of_decide_eq_true (by kernel_rfl)) k1 bel lt1) (trodAll_cons_mk (shut_string Tryd.underlying9 w2) (trodAll_cons_mk (shut_string Tryd.underlying9 w3) trodAll_mk0)))), rfl, bel.frame _, fun h => by cases h⟩

def lay (cs : Array Value) : Obj → Obj
  | .cells _ t frozen => .cells cs t frozen
  | o => o
noncomputable def low : Nat := (World.holding Tryd.prog default ⟨#[], #[], []⟩).heap.size
noncomputable def laidWorld (os : Os) : World :=
  { World.holding Tryd.prog os ⟨#[.cells #[.string ⟨#[110, 111, 116, 32, 97, 115, 32, 108, 111, 110, 103, 32, 97, 115, 32, 97, 32, 112, 97, 105, 114, 32, 111, 102, 32, 107, 101, 121, 115]⟩] 137, .cells #[.string ⟨#[110, 111, 116, 32, 97, 115, 32, 108, 111, 110, 103, 32, 97, 115, 32, 97, 32, 110, 111, 110, 99, 101]⟩] 137, .cells #[.string ⟨#[115, 104, 111, 114, 116, 101, 114, 32, 116, 104, 97, 110, 32, 97, 32, 116, 97, 103]⟩] 137, .cells #[.string ⟨#[108, 111, 110, 103, 101, 114, 32, 116, 104, 97, 110, 32, 119, 104, 97, 116, 32, 105, 115, 32, 101, 118, 101, 114, 32, 115, 101, 97, 108, 101, 100]⟩] 137, .cells #[.string ⟨#[116, 104, 101, 32, 116, 97, 103, 32, 100, 111, 101, 115, 32, 110, 111, 116, 32, 102, 105, 116]⟩] 137], #[], []⟩ with heap := (((((((World.holding Tryd.prog os ⟨#[.cells #[.string ⟨#[110, 111, 116, 32, 97, 115, 32, 108, 111, 110, 103, 32, 97, 115, 32, 97, 32, 112, 97, 105, 114, 32, 111, 102, 32, 107, 101, 121, 115]⟩] 137, .cells #[.string ⟨#[110, 111, 116, 32, 97, 115, 32, 108, 111, 110, 103, 32, 97, 115, 32, 97, 32, 110, 111, 110, 99, 101]⟩] 137, .cells #[.string ⟨#[115, 104, 111, 114, 116, 101, 114, 32, 116, 104, 97, 110, 32, 97, 32, 116, 97, 103]⟩] 137, .cells #[.string ⟨#[108, 111, 110, 103, 101, 114, 32, 116, 104, 97, 110, 32, 119, 104, 97, 116, 32, 105, 115, 32, 101, 118, 101, 114, 32, 115, 101, 97, 108, 101, 100]⟩] 137, .cells #[.string ⟨#[116, 104, 101, 32, 116, 97, 103, 32, 100, 111, 101, 115, 32, 110, 111, 116, 32, 102, 105, 116]⟩] 137], #[], []⟩).heap.modify 5 (lay #[.int .u32 1779033703, .int .u32 3144134277, .int .u32 1013904242, .int .u32 2773480762, .int .u32 1359893119, .int .u32 2600822924, .int .u32 528734635, .int .u32 1541459225])).modify 6 (lay #[.int .u32 1116352408, .int .u32 1899447441, .int .u32 3049323471, .int .u32 3921009573, .int .u32 961987163, .int .u32 1508970993, .int .u32 2453635748, .int .u32 2870763221, .int .u32 3624381080, .int .u32 310598401, .int .u32 607225278, .int .u32 1426881987, .int .u32 1925078388, .int .u32 2162078206, .int .u32 2614888103, .int .u32 3248222580, .int .u32 3835390401, .int .u32 4022224774, .int .u32 264347078, .int .u32 604807628, .int .u32 770255983, .int .u32 1249150122, .int .u32 1555081692, .int .u32 1996064986, .int .u32 2554220882, .int .u32 2821834349, .int .u32 2952996808, .int .u32 3210313671, .int .u32 3336571891, .int .u32 3584528711, .int .u32 113926993, .int .u32 338241895, .int .u32 666307205, .int .u32 773529912, .int .u32 1294757372, .int .u32 1396182291, .int .u32 1695183700, .int .u32 1986661051, .int .u32 2177026350, .int .u32 2456956037, .int .u32 2730485921, .int .u32 2820302411, .int .u32 3259730800, .int .u32 3345764771, .int .u32 3516065817, .int .u32 3600352804, .int .u32 4094571909, .int .u32 275423344, .int .u32 430227734, .int .u32 506948616, .int .u32 659060556, .int .u32 883997877, .int .u32 958139571, .int .u32 1322822218, .int .u32 1537002063, .int .u32 1747873779, .int .u32 1955562222, .int .u32 2024104815, .int .u32 2227730452, .int .u32 2361852424, .int .u32 2428436474, .int .u32 2756734187, .int .u32 3204031479, .int .u32 3329325298])).modify 3 (lay #[.iface 113 (.pointer (some ⟨low, 0, none⟩))])).modify 4 (lay #[.iface 113 (.pointer (some ⟨low + 1, 0, none⟩))])).modify 0 (lay #[.iface 113 (.pointer (some ⟨low + 2, 0, none⟩))])).modify 1 (lay #[.iface 113 (.pointer (some ⟨low + 3, 0, none⟩))])).modify 2 (lay #[.iface 113 (.pointer (some ⟨low + 4, 0, none⟩))]) }
theorem laid_met (os : Os) : laidMet Tryd.prog Rows.boxStreamRow.laid ((laidWorld os).forCall (fun _ _ => 0) ⟨#[], #[.slice none 0 0, .slice none 0 0, .string ByteArray.empty, .string ByteArray.empty], []⟩).memory :=
  laidMet_of_run' 8 (by kernel_rfl) (by kernel_rfl)
theorem reads (os : Os) {H : Type} (enc : TypeId × Value → H) : ∃ places, DataW.whole enc Tryd.prog ((laidWorld os).forCall (fun _ _ => 0) ⟨#[], #[.slice none 0 0, .slice none 0 0, .string ByteArray.empty, .string ByteArray.empty], []⟩).memory Tryd.f7.params.toList Rows.boxStreamSpec.vars false (show Array Value from #[.slice none 0 0, .slice none 0 0, .string ByteArray.empty, .string ByteArray.empty]).toList 8 = some ([.nil, .nil, .lit (.string []), .lit (.string [])], [], places) :=
  ⟨[], by kernel_rfl⟩

set_option maxRecDepth 100000 in
theorem lifted (os : Os) (started : os.Started) (H : Type) (enc : TypeId × Value → H) (F : Stop.Interp) :
    ReturnsInHanded {} Tryd.checked os 7 .any ((OpenSpec.ofChange Rows.boxStreamSpec).preRow enc Tryd.prog Tryd.f7 Rows.boxStreamRow.domain false Rows.boxStreamRow.laid) (((OpenSpec.ofChange Rows.boxStreamSpec).at F).post enc Tryd.prog Tryd.f7 false true false false) := by
  obtain ⟨places, hx⟩ := reads os enc
  refine returnsInHanded_of_row (C := Tryd.checked) (s := OpenSpec.ofChange Rows.boxStreamSpec) own started (by kernel_rfl) Tryd.func7
    (witness_row_at (enc := enc) (C := Tryd.checked) false (laidWorld os) #[.slice none 0 0, .slice none 0 0, .string ByteArray.empty, .string ByteArray.empty] rfl (by kernel_rfl) (by kernel_rfl) (by kernel_rfl)
      (OpenSpec.preRow_of_cond 8 hx (by kernel_rfl) (fun k hk => by cases hk) (by kernel_rfl) (laid_met os))) ?_
  intro W base args ds gs before hval hW _ _ _ hL _ _
  exact contract H enc W base args ds gs before hval hW hL

theorem said : Rows.BoxStreamSaid :=
  OpenClaim.holds_of_cond 7 Tryd.f7 rfl rfl rfl rfl rfl rfl rfl ⟨rfl, rfl, rfl, rfl, rfl⟩ rfl rfl rfl rfl rfl (by kernel_rfl) Tryd.func7 (by kernel_rfl)
    (of_decide_eq_true (by kernel_rfl)) (by unfold Func.isWrapper; first | (rw [if_pos (by decide +kernel)]; kernel_rfl) | (rw [if_neg (by decide +kernel)]; exact ⟨rfl, rfl⟩))
    (fun os started H enc _ F => by rw [OpenClaim.pre_eq_preRow]; exact lifted os started H enc F)

theorem plain (f : FuncId) (fn : Func) (hf : Tryd.pinned.checked.prog.funcNamed "deaddrop/deaddroplaw6.BoxStream" = some f) (hfn : Tryd.pinned.checked.prog.funcs[f]? = some fn) :
    true = Tryd.pinned.checked.prog.looks [] ∧ ∀ (j : Nat) t, fn.params[j]? = some t → Tryd.pinned.checked.prog.wantsStandIn t = false := by
  obtain rfl : f = 7 := Option.some.inj ((show Tryd.prog.funcNamed "deaddrop/deaddroplaw6.BoxStream" = some 7 by kernel_rfl).symm.trans hf) |>.symm
  obtain rfl : fn = Tryd.f7 := (Option.some.inj (Tryd.func7.symm.trans hfn)).symm
  refine ⟨by kernel_rfl, fun j t ht => ?_⟩
  have hall : (Tryd.f7.params.toList.all fun u => !Tryd.prog.wantsStandIn u) = true := by kernel_rfl
  have hm : t ∈ Tryd.f7.params.toList := by simpa using Array.mem_of_getElem? ht
  exact (show Tryd.prog.wantsStandIn t = false by simpa using List.all_eq_true.1 hall t hm)

theorem card : Rows.BoxStreamCardSaid :=
  Claim7.holds_tied_plain_at .later [] _ _ _ _ said (fun _ h => by cases h) (by kernel_rfl) (fun _ h => by cases h) boxStream_row_tie rfl ⟨rfl, rfl⟩ (by kernel_rfl) rfl plain (by kernel_rfl)
#print axioms card
end Go.Proofs.YthdealjnhgkoiaaDoor.boxStream
