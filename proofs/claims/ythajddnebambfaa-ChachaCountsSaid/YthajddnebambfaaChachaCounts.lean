/-
  Proved: whatever values of its parameters' types it is called with, deaddroplaw1.ChachaCounts returns true, and each argument reads behind the call as it read before.
  Conditions: none but those of the row itself.
  (The frame round the walk was written by the kit's proof-skeleton.mjs.)
-/
import Derived.Test.YthajddnebambfaaRows
import Derived.WalkKit
import Derived.ProofKit
import Derived.OpenShut
import Derived.ShutString
import Derived.Test.YthajddnebambfaaHelp
import Derived.IntWalk
import Derived.ChangeOld
import Derived.Below
namespace Go.Proofs.Ythajddnebambfaa.chachaCounts
open Go.ChangeShapes Go.WideShapes Go.ChangeAt Go.RowKit
open Go.ChangeMaps (open_string shut_string)
open Go.Proofs.Ythajddnebambfaa.Wd Go.Proofs.Ythajddnebambfaa.Mm
set_option linter.unusedVariables false

theorem own : ownKnob Try.prog.godebug = none := by kernel_rfl
theorem laidOut : laidOutB Try.prog = true := by kernel_rfl

/-- WHAT THE WALK IS TOLD OF A SLICE OF INTEGERS THAT CAME IN: it is nil; or it leads to a row of 'cap' cells, the numbers 'zs' (the first 'len' are its elements, the rest its spare room), each fitting its kind. -/
def IsRow (k : IntKind) (w : World) (a : Option Addr) (len cap : Nat) (zs : List Int) : Prop :=
  (a = none ∧ len = 0 ∧ cap = 0 ∧ zs = []) ∨
  ∃ x, a = some x ∧ len ≤ cap ∧ cap ≤ maxLen ∧ zs.length = cap ∧ (∀ i, i < zs.length → w.cell? (x.add i) = some (.int k (zs.getD i 0))) ∧ ∀ n ∈ zs, (Lit.int k n).wf = true

/-- What a block of noughts turned is, part by part. -/
theorem xor_part (k o : ByteArray) (c : Int) (m i q : Nat) (hi : i < m) (hq : q < 64) : (xorS k.data.toList o.data.toList c (List.replicate (64 * m) 0)).getD (64 * i + q) 0 = streamB (stir (wsAt k.data.toList o.data.toList c i)) q := by
  have h : 64 * i + q < 64 * m := by omega
  unfold xorS
  rw [List.getD_eq_getElem?_getD, List.getElem?_eq_getElem (by simpa using h)]
  simp only [List.getElem_map, List.getElem_range, Option.getD_some]
  rw [zerosD]
  unfold keyB
  rw [show (64 * i + q) / 64 = i by omega, show (64 * i + q) % 64 = q by omega]
  simp [xb]
theorem zeros_row {w : World} {g n : Nat} {t : TypeId} (h : Row w g t (madeCells #[.int .u8 0] n)) : Holds w (some ⟨g, 0, none⟩) n (List.replicate n 0) := by
  refine ⟨by simp, fun _ => ⟨g, 0, rfl, h.lt, fun i hi => ?_⟩⟩
  rw [Nat.zero_add, zerosD]
  refine h.at_ ?_
  simp [madeCells, hi, w8, Nat.mod_one]
theorem part_string {w : World} {g c cap i m : Nat} {l : List UInt8} (hl : l.length = 64 * m) (hi : i < m) (h : Row w g 5 (l.map w8).toArray) (s : List UInt8) (hs : s.length = 64) (hq : ∀ q, q < 64 → l.getD (64 * i + q) 0 = s.getD q 0) (hcap : c = 64 * i) :
    ∀ W, w.grownBy W none → (convert 25 9 (.slice (some ⟨g, c, none⟩) 64 cap)).run Try.prog W = .ok (.string ⟨s.toArray⟩) W := by
  intro W hW
  subst hcap
  have r := run_convert_bytes_back (P := Try.prog) W 25 9 5 ⟨g, 64 * i, none⟩ cap s Try.underlying25 Try.underlying5 Try.underlying9 (fun j hj => by
    have hj' : j < 64 := by rw [hs] at hj; exact hj
    have hadd : (⟨g, 64 * i, none⟩ : Addr).add j = ⟨g, 64 * i + j, none⟩ := by unfold Addr.add; split <;> simp_all
    have hlt : 64 * i + j < l.length := by rw [hl]; omega
    rw [hadd]
    refine (h.kept hW (by simp)).at_ ?_
    have e := hq j hj'
    rw [List.getD_eq_getElem?_getD, List.getElem?_eq_getElem hlt, List.getD_eq_getElem?_getD, List.getElem?_eq_getElem hj] at e
    simp only [Option.getD_some] at e
    simp [hlt, w8, e])
  rw [hs] at r
  exact r

set_option maxHeartbeats 40000000 in
set_option maxRecDepth 100000 in
theorem walk (a0 : Option Addr) (len0 cap0 : Nat) (z0 : List Int) (a1 : Int) (a2 : Int) (w : World) (w0 : IsRow .u8 w a0 len0 cap0 z0) (w1 : (Lit.int .u8 a1).wf = true) (w2 : (Lit.int .u32 a2).wf = true) :
    Calls Try.prog 9 #[.slice a0 len0 cap0, .int .u8 a1, .int .u32 a2] w fun e w' => e = .returned (.bool true) ∧ Below w.heap.size w w' := by
  obtain ⟨hb0, hl0, _⟩ := holds_of_row w0
  obtain ⟨hx0, hx1⟩ : 0 ≤ a1 ∧ a1 ≤ 255 := by
    have h1 : IntKind.u8.min = 0 := by decide
    have h2 : IntKind.u8.max = 255 := by decide
    simp only [Lit.wf, h1, h2, Bool.and_eq_true, decide_eq_true_eq] at w1
    exact w1
  obtain ⟨hc0, hc1⟩ : 0 ≤ a2 ∧ a2 ≤ 4294967295 := by
    have h1 : IntKind.u32.min = 0 := by decide
    have h2 : IntKind.u32.max = 4294967295 := by decide
    simp only [Lit.wf, h1, h2, Bool.and_eq_true, decide_eq_true_eq] at w2
    exact w2
  clear w0 w1 w2
  generalize bytesOf z0 len0 = b0 at *
  obtain ⟨m, hm⟩ : ∃ m : Nat, 1 + a1 % 4 = (m : Int) := ⟨(1 + a1 % 4).toNat, by omega⟩
  have hm1 : 1 ≤ m := by omega
  have hm4 : m ≤ 4 := by omega
  obtain ⟨M, HM⟩ : ∃ M : Nat, Hid (M = 64 * m) := ⟨_, rfl⟩
  have hM : 64 * (m : Int) = (M : Int) := by have := HM.out; omega
  have hM1 : M ≤ 256 := by have := HM.out; omega
  have hmk := fun W => run_make_row' (P := Try.prog) 25 5 (.int .u8 0) 1 Try.underlying25 byte_info rfl .i64 .i64 M (by omega) (by omega) W
  go_enter Try.func9, Try.ntmps9
  go_wp2_with fail
  refine (bytes_any a0 len0 cap0 32 b0 _ hb0 hl0 (by omega)).mono ?_
  rintro e y1 ⟨rfl, k1⟩
  go_wp2_with fail
  refine (bytes_any none 0 0 12 [] _ ⟨rfl, fun h => absurd h (by omega)⟩ (by omega) (by omega)).mono ?_
  rintro e y2 ⟨rfl, k2⟩
  have k := gb_none k1 k2
  have Hk : Hid ((⟨(bytesS b0 32).toArray⟩ : ByteArray).size = 32) := by show _ = _; rw [← len_data, ba, bytesS_len]
  have Hn : Hid ((⟨(bytesS [] 12).toArray⟩ : ByteArray).size = 12) := by show _ = _; rw [← len_data, ba, bytesS_len]
  generalize (⟨(bytesS b0 32).toArray⟩ : ByteArray) = key at *
  generalize (⟨(bytesS [] 12).toArray⟩ : ByteArray) = non at *
  clear k1 k2 hb0
  go_wp2_with fail
  refine (xor_any key non a2 _ M M (List.replicate M 0) _ (by omega) (zeros_row (Row.new _ _ _))).mono ?_
  rintro e x1 ⟨v, rfl, g1, t1⟩
  have g2 : y2.grownBy x1 none := gb_none (gb_alloc (gb_refl _ _) _) g1
  have kk := gb_none k g2
  by_cases hfar : 4294967296 < a2 + (m : Int)
  · have d1 : decide (4294967296 < a2 + (m : Int)) = true := by simpa using hfar
    have hx : xorA key non a2 (List.replicate M 0) = [] := by
      unfold xorA
      rw [List.length_replicate, if_neg (by have := HM.out; omega), if_neg]
      simp only [fitsB, decide_eq_true_eq]
      intro h
      have := h.2.2.2
      have := HM.out
      omega
    rw [hx] at t1
    rcases t1 with ⟨_, rfl⟩ | ⟨hn, _⟩
    · go_wp2_with fail
      refine (awake_any _).mono ?_
      rintro e x3 ⟨rfl, g3⟩
      go_wp2_with fail
      go_ret
      exact ⟨rfl, below_of (gb_none kk g3)⟩
    · exact absurd rfl hn
  · have d1 : decide (4294967296 < a2 + (m : Int)) = false := by simpa using hfar
    have hx : xorA key non a2 (List.replicate M 0) = xorS key.data.toList non.data.toList a2 (List.replicate M 0) := by
      unfold xorA
      rw [List.length_replicate, if_neg (by have := HM.out; omega), if_pos]
      simp only [fitsB, decide_eq_true_eq]
      exact ⟨Hk.out, Hn.out, hc0, by have := HM.out; omega⟩
    rw [hx] at t1
    have hlen : (xorS key.data.toList non.data.toList a2 (List.replicate M 0)).length = M := by rw [xorS_len, List.length_replicate]
    rcases t1 with ⟨he, _⟩ | ⟨_, g, rfl, hgB, hrow⟩
    · exfalso
      rw [he] at hlen
      have := HM.out
      simp at hlen; omega
    · rw [hlen]
      have Hlen := Lib.hid hlen
      have Hx := Lib.hid hx
      have hfar2 : a2 + (m : Int) ≤ 4294967296 := by omega
      clear hlen hx hfar
      go_wp2_with fail
      go_loopw [12] (fun v wr => ∃ i : Nat, i ≤ m ∧ v = .int .i64 i ∧ x1.grownBy wr none) (fun v _ => m - (intOf v).toNat)
      case atStart => exact ⟨0, Nat.zero_le _, rfl, gb_refl _ _⟩
      case round =>
        obtain ⟨i, him, rfl, hg⟩ := hrel
        by_cases hlt : i < m
        · have d2 : decide ((i : Int) < (m : Int)) = true := by simp; omega
          obtain ⟨o, Ho⟩ : ∃ o : Nat, Hid (o = 64 * i) := ⟨_, rfl⟩
          have ho : 64 * (i : Int) = (o : Int) := by have := Ho.out; omega
          have ho1 : (o : Int) + 64 ≤ (M : Int) := by have := Ho.out; have := HM.out; omega
          have ho2 : (o : Int) ≤ (o : Int) + 64 := by omega
          have ho4 : 0 ≤ (o : Int) + 64 := by omega
          have hv0 : IntKind.i64.wrap (o : Int) = (o : Int) := IntWalk.i64_in _ (by have := Ho.out; omega)
          have hv1 : IntKind.i64.wrap ((o : Int) + 64) = (o : Int) + 64 := IntWalk.i64_in _ (by have := Ho.out; omega)
          have hv2 : IntKind.i64.wrap (a2 + (i : Int)) = a2 + (i : Int) := IntWalk.i64_in _ (by omega)
          have hv3 : ((o : Int) + 64).toNat = o + 64 := by omega
          have ho3 : ¬ M = o := by have := Ho.out; have := HM.out; omega
          obtain ⟨s, Hs⟩ : ∃ s, Hid (s = streamOf (stir (wsAt key.data.toList non.data.toList a2 i))) := ⟨_, rfl⟩
          have Hblk : Hid (blockA key non (a2 + (i : Int)) = ⟨s.toArray⟩) := by
            show _ = _
            rw [Hs.out]
            exact blockA_fit key non _ Hk.out Hn.out (by omega) (by have := HM.out; omega)
          have hcv : ∀ W, x1.grownBy W none → (convert 25 9 (.slice (some ⟨g, o, none⟩) 64 (M - o))).run Try.prog W = .ok (.string ⟨s.toArray⟩) W :=
            part_string (m := m) (by rw [Hlen.out, HM.out]) hlt hrow s (by rw [Hs.out, streamOf_len]) (fun q hq => by
              rw [HM.out, xor_part key non a2 m i q hlt hq, Hs.out, streamOf_getD _ _ hq]) Ho.out
          have hcv2 : ∀ W, x1.grownBy W none → (convert 25 9 (.slice (some ⟨g, o, none⟩) (o + 64 - o) (M - o))).run Try.prog W = .ok (.string ⟨s.toArray⟩) W := by
            rw [Nat.add_sub_cancel_left]; exact hcv
          have hgd := fun W => gb_drew_eq x1 W none
          go_wp2_with fail
          go_region_with (go_at_call 10; refine (block_any _ _ _ _).mono ?_; rintro e x4 ⟨rfl, g4'⟩; have g4 := gb_none hg (gb_undrew g4'); clear g4'; rw [Hblk.out])
          all_goals
            go_wp2
            refine ⟨⟨i + 1, by omega, by go_num, g4⟩, by simp [intOf]; omega⟩
        · have d2 : decide ((i : Int) < (m : Int)) = false := by simp; omega
          go_wp2_with fail
          refine (awake_any _).mono ?_
          rintro e x3 ⟨rfl, g3⟩
          go_wp2_with fail
          go_ret
          exact ⟨rfl, below_of (gb_none (gb_none kk hg) g3)⟩

set_option maxRecDepth 100000 in
theorem lifted (os : Os) (started : os.Started) (H : Type) (enc : TypeId × Value → H) :
    ReturnsInHanded {} Try.checked os 9 .any (Rows.chachaCountsSpec.pre6 enc Try.prog Try.f9 Rows.chachaCountsRow.domain false) (Rows.chachaCountsSpec.post enc Try.prog Try.f9 false true false false) := by
  refine returnsInHanded_of_change (C := Try.checked) own started (by kernel_rfl) Try.func9
    (ChangeSpec.witness6 (enc := enc) (C := Try.checked) false ⟨#[], #[.slice none 0 0, .int .u8 0, .int .u32 0], []⟩ 8 (by kernel_rfl) (by kernel_rfl) (by kernel_rfl) (by kernel_rfl)) ?_
  intro W base args ds gs before hval0 hW hcnd _
  have hval : ∀ (j : Nat) t v, Try.f9.params[j]? = some t → args[j]? = some v → Value.okWide Try.prog W .any base t v := hval0
  have hW' := hW
  obtain ⟨p, q, hA0, hV, rfl, hfz, hnd⟩ := hW
  have hA : DataW.TrodAll enc Try.prog W 0 (fun _ => true) true Try.f9.params.toList args.toList ds p := hA0
  rw [Try.params9] at hA hval
  obtain ⟨v0, vs0, d0, ds0, p0, q0, hargs, rfl, rfl, h0, r0⟩ := trodAll_cons hA
  obtain ⟨v1, vs1, d1, ds1, p1, q1, rfl, rfl, rfl, h1, r1⟩ := trodAll_cons r0
  obtain ⟨v2, vs2, d2, ds2, p2, q2, rfl, rfl, rfl, h2, r2⟩ := trodAll_cons r1
  obtain ⟨rfl, rfl, rfl⟩ := trodAll_nil r2
  obtain rfl : args = #[v0, v1, v2] := by cases args; simp_all
  obtain ⟨rfl, rfl⟩ := trodVars_none hV
  obtain ⟨a0, len0, cap0, rfl⟩ := okWide_slice Try.underlying25 (hval 0 25 v0 rfl rfl)
  have k0 := h0
  have lt0 : ∀ x ∈ p0, x.block < W.heap.size := by obtain ⟨m, hm⟩ := k0; exact DataW.trod_lt m _ _ _ hm
  obtain ⟨z0, w0⟩ : ∃ zs, IsRow .u8 W a0 len0 cap0 zs := by
    obtain ⟨fuel, hf⟩ := h0
    rcases open_ints Try.underlying25 Try.underlying5 (by kernel_rfl) hf with ⟨hcs, _⟩ | ⟨x, l, c, zs, hcs, _, hl, hm, hz, _, hcell, hwz⟩
    · simp [Value.cells] at hcs
      obtain ⟨rfl, rfl, rfl⟩ := hcs
      exact ⟨[], .inl ⟨rfl, rfl, rfl, rfl⟩⟩
    · simp [Value.cells] at hcs
      obtain ⟨rfl, rfl, rfl⟩ := hcs
      exact ⟨zs, .inr ⟨_, rfl, hl, hm, by simpa using hz, hcell, hwz⟩⟩
  obtain ⟨a1, rfl, rfl, rfl, w1⟩ := open_int Try.underlying5 (hval 1 5 v1 rfl rfl) h1
  obtain ⟨a2, rfl, rfl, rfl, w2⟩ := open_int Try.underlying35 (hval 2 35 v2 rfl rfl) h2
  clear hA0 hval0
  refine (walk a0 len0 cap0 z0 a1 a2 W w0 w1 w2).mono fun e W' ⟨he, bel⟩ => ?_
  subst he
  exact ⟨_, rfl, _, _, _, [], _, [], hW', trodAll_mk1 (shut_bool Try.underlying4 _), (trodAll_cons_mk (Below.trod laidOut (by kernel_rfl) (of_decide_eq_true (by kernel_rfl)) k0 bel lt0) (trodAll_cons_mk (shut_int Try.underlying5 w1) (trodAll_cons_mk (shut_int Try.underlying35 w2) trodAll_mk0))), rfl, bel.frame _, fun h => by cases h⟩

theorem over : Rows.chachaCountsRow.holds Try.pinned (OpenSpec.ofChange Rows.chachaCountsSpec) :=
  OpenClaim.holds_of_wide 9 Try.f9 rfl rfl rfl rfl rfl rfl rfl ⟨rfl, rfl, rfl, rfl, rfl⟩ rfl rfl rfl rfl rfl (by kernel_rfl) Try.func9 (by kernel_rfl)
    (of_decide_eq_true (by kernel_rfl)) (by unfold Func.isWrapper; first | (rw [if_pos (by decide +kernel)]; kernel_rfl) | (rw [if_neg (by decide +kernel)]; exact ⟨rfl, rfl⟩))
    (fun os started H enc _ => lifted os started H enc)

theorem proved : Rows.ChachaCountsSaid := over
#print axioms proved
end Go.Proofs.Ythajddnebambfaa.chachaCounts
