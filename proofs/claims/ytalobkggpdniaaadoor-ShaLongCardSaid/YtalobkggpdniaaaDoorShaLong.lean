/-
  Proved: whatever values of its parameters' types it is called with, deaddroplaw2.ShaLong returns true, and each argument reads behind the call as it read before; the two tables of package sha being what the program's own text lays (the card ties them).
  Conditions: none but those of the card itself.
-/
import Derived.Test.YtalobkggpdniaaaDoorCards
import Derived.Test.YtalobkggpdniaaaDoorTie
import Derived.WalkKit
import Derived.ProofKit
import Derived.OpenShut
import Derived.ShutString
import Derived.Below
import Derived.Deep.DeepHandedRow
import Derived.Lib.LaidTab
import Derived.LaidSub
import Derived.Test.YtalobkggpdniaaaDoorSLaw
import Derived.IntWalk
import Derived.Outline
namespace Go.Proofs.YtalobkggpdniaaaDoor.shaLong
open Go.ChangeShapes Go.WideShapes Go.ChangeAt Go.RowKit
open Go.ChangeMaps (open_string shut_string)
open Go.Proofs.YtalobkggpdniaaaDoor.Wd Go.Proofs.YtalobkggpdniaaaDoor.Mm
set_option linter.unusedVariables false

theorem own : ownKnob Tryd.prog.godebug = none := by kernel_rfl
theorem laidOut : laidOutB Tryd.prog = true := by kernel_rfl

/-- WHAT THE WALK IS TOLD OF A SLICE OF INTEGERS THAT CAME IN: it is nil; or it leads to a row of 'cap' cells, the numbers 'zs' (the first 'len' are its elements, the rest its spare room), each fitting its kind. -/
def IsRow (k : IntKind) (w : World) (a : Option Addr) (len cap : Nat) (zs : List Int) : Prop :=
  (a = none ∧ len = 0 ∧ cap = 0 ∧ zs = []) ∨
  ∃ x, a = some x ∧ len ≤ cap ∧ cap ≤ maxLen ∧ zs.length = cap ∧ (∀ i, i < zs.length → w.cell? (x.add i) = some (.int k (zs.getD i 0))) ∧ ∀ n ∈ zs, (Lit.int k n).wf = true


open Td
attribute [local go_sem] Td.upon_value Td.upon_skip Td.upon_enter Td.upon_row Td.look_tmp Td.look_const Td.look_func Td.look_global

set_option maxHeartbeats 40000000 in
set_option maxRecDepth 100000 in
theorem walk (a0 : Option Addr) (len0 cap0 : Nat) (z0 : List Int) (a1 : Int) (w : World) (w0 : IsRow .u8 w a0 len0 cap0 z0) (w1 : (Lit.int .u8 a1).wf = true) (hT : Tabs w) :
    Calls Tryd.prog 4 #[.slice a0 len0 cap0, .int .u8 a1] w fun e w' => e = .returned (.bool true) ∧ Below w.heap.size w w' := by
  obtain ⟨hx0, hx1⟩ := u8_bound w1
  have hl := row_len w0
  have hb := held8_of w0
  clear w0 w1
  obtain ⟨K, rfl⟩ : ∃ K : Nat, a1 = (K : Int) := ⟨a1.toNat, by omega⟩
  have hK : K ≤ 255 := by omega
  have hmk := makeB_at K (by omega)
  have Hb := Lib.hid hb
  clear hb
  go_enter Tryd.func4, Tryd.ntmps4
  go_wp2_with fail
  clear hmk
  go_loopw [7] (fun i wr => ∃ (k : Nat) (l : List UInt8), k ≤ K ∧ i = .int .i64 k ∧ l.length = K ∧ Row wr w.heap.size 5 (l.map w8).toArray ∧ w.grownBy wr none) (fun i _ => K - (intOf i).toNat)
  case atStart => exact ⟨0, List.replicate K 0, Nat.zero_le _, rfl, by simp, by rw [← madeB_eq]; exact Row.new _ _ _, gb_alloc (gb_refl _ _) _⟩
  case round =>
    obtain ⟨k, l, hk, rfl, hl2, hr, hg⟩ := hrel
    have hTW := hT.keep hg (by simp)
    have Hl2 := Lib.hid hl2
    clear hl2
    by_cases hlt : k < K
    · have d1 : decide (k < K) = true := decide_eq_true hlt
      have d2 : decide ((k : Int) < (K : Int)) = true := decide_eq_true (by omega)
      have hki : (k : Int) < (K : Int) := by omega
      obtain ⟨v0, hv0⟩ : ∃ v, wr.cell? ⟨w.heap.size, k, none⟩ = some v := ⟨_, hr.at_ (Array.getElem?_eq_getElem (by simp [Hl2.out]; exact hlt))⟩
      have hf : wr.frozen? ⟨w.heap.size, k, none⟩ = false := hr.free _
      obtain ⟨z, hz⟩ : ∃ z : Int, (k : Int) * 7 % 256 = z := ⟨_, rfl⟩
      have hz0 : 0 ≤ z := by omega
      have hz1 : z ≤ 255 := by omega
      by_cases hl0 : len0 = 0
      · have t1 : decide ((0 : Int) < (len0 : Int)) = false := decide_eq_false (by omega)
        have t2 : decide (0 < len0) = false := decide_eq_false (by omega)
        have Hz := Lib.hid hz
        clear hz hl0
        go_wp2_with fail
        go_roundw
        case rel =>
          rw [Hz.out]
          refine ⟨k + 1, l.set k (UInt8.ofNat z.toNat), by omega, by go_num, by rw [List.length_set]; exact Hl2.out, ?_, gb_new hg (gb_set1 _ _ _ _) (Nat.le_refl _)⟩
          have h := hr.set_ k (.int .u8 z)
          rw [bytes_set l k z hz0 hz1] at h
          exact h
        case measure => simp [intOf]; omega
      · have t1 : decide ((0 : Int) < (len0 : Int)) = true := decide_eq_true (by omega)
        have t2 : decide (0 < len0) = true := decide_eq_true (by omega)
        have hlp : (0 : Int) < (len0 : Int) := by omega
        obtain ⟨g, o, rfl, hgl, hc⟩ := (Hb.out.keep (gb_new hg (gb_set1 wr w.heap.size k (.int .u8 z)) (Nat.le_refl _))) (by omega)
        obtain ⟨y, hy⟩ : ∃ y : Nat, (k : Int) % (len0 : Int) = (y : Int) := ⟨k % len0, by omega⟩
        have hyl : y < len0 := by have := Int.emod_lt_of_pos (k : Int) hlp; omega
        have hyi : (y : Int) < (len0 : Int) := by omega
        obtain ⟨q, hq, hcq⟩ := hc y hyl
        clear hc
        have hk256 : (k : Int) % 256 = (k : Int) := by omega
        have hxb := xor_byte q k hq (by omega)
        go_wp2_with fail
        go_roundw
        case rel =>
          have h := (hr.set_ k (.int .u8 z)).set_ k (.int .u8 (bits .xor .u8 (q : Int) (k : Int)))
          rw [bytes_set l k z hz0 hz1, bytes_set _ k _ hxb.1 hxb.2] at h
          refine ⟨k + 1, _, by omega, by go_num, ?_, h, gb_new (gb_new hg (gb_set1 _ _ _ _) (Nat.le_refl _)) (gb_set1 _ _ _ _) (Nat.le_refl _)⟩
          rw [List.length_set, List.length_set]; exact Hl2.out
        case measure => simp [intOf]; omega
    · have d1 : decide (k < K) = false := decide_eq_false hlt
      have d2 : decide ((k : Int) < (K : Int)) = false := decide_eq_false (by omega)
      obtain ⟨T, HTT⟩ : ∃ T : ByteArray, Hid (T = ⟨l.toArray⟩) := ⟨_, rfl⟩
      have hT64 : T.size ≤ 1099511627776 := by rw [HTT.out, ← len_data, ba, Hl2.out]; omega
      have hstr : ∀ W, wr.grownBy W none → (convert 26 9 (.slice (some ⟨w.heap.size, 0, none⟩) K K)).run Tryd.prog W = .ok (.string T) W := fun W hW => by
        have h := row_string (hr.kept hW (by simp)) K
        rw [Hl2.out, ← HTT.out] at h
        exact h
      obtain ⟨S, HS⟩ : ∃ S : ByteArray, Hid (sumB T = S) := ⟨_, rfl⟩
      go_wp2_with fail
      apply wp_region_told (le := fun a b => a.grownBy b none) [isV _, isV _, strsV 1 [T], isV _, isV _, isV _, isV _, isV _, isV _, isV _, isV _, isV _]
      case hn => rfl
      case hm => kernel_rfl
      case hB => kernel_rfl
      case ht => exact fun _ _ _ h k => gb_none h k
      case hw => exact gb_drew (gb_refl _ _)
      -- 0: law.go:28 move
      apply told_is
      · intro W f hW hE h0 K hK
        have e6 := h0 6 (by kernel_rfl)
        conv at e6 => rhs; whnf
        clear hE h0
        refine yes_of (want_free rfl) ?_
        go_simp; exact hK _ _ (gb_refl _ _) rfl
      -- 1: law.go:28 convert
      apply told_is
      · intro W f hW hE h0 K hK
        have e39 : f 39 = _ := hE 0 39 _ rfl (by kernel_rfl)
        clear hE h0
        refine yes_of (want_free rfl) ?_
        have hc := hstr W hW
        go_simp; exact hK _ _ (gb_refl _ _) rfl
      -- 2: law.go:28 buildSlice
      apply told_at strs_stays
      · intro W f hW hE h0 K hK
        have e40 : f 40 = _ := hE 0 40 _ rfl (by kernel_rfl)
        clear hE h0
        refine yes_of (want_free rfl) ?_
        go_simp
        exact hK _ _ (gb_alloc (gb_refl _ _) _) ⟨_, _, rfl, strs_new1 _ _ _ rfl⟩
      -- 3: law.go:28 call
      apply told_is
      · intro W f hW hE h0 K hK
        have e41 := hE 0 41 _ rfl (by kernel_rfl)
        clear hE h0
        refine yes_of (want_free rfl) ?_
        obtain ⟨A, c, ev, hs⟩ := e41
        go_simp
        refine (sum_any _ 1 _ [T] _ (by decide) (one_small _ (by omega)) hs (hTW.keep hW (by simp))).mono ?_
        rintro e w1 ⟨rfl, g⟩
        rw [sum_text _ T (catB_one _), HS.out]
        exact ⟨_, rfl, hK _ _ g rfl⟩
      -- 4: law.go:28 move
      apply told_is
      · intro W f hW hE h0 K hK
        have e6 := h0 6 (by kernel_rfl)
        conv at e6 => rhs; whnf
        clear hE h0
        refine yes_of (want_free rfl) ?_
        go_simp; exact hK _ _ (gb_refl _ _) rfl
      -- 5: law.go:28 convert
      apply told_is
      · intro W f hW hE h0 K hK
        have e43 : f 43 = _ := hE 0 43 _ rfl (by kernel_rfl)
        clear hE h0
        refine yes_of (want_free rfl) ?_
        have hc := hstr W hW
        go_simp; exact hK _ _ (gb_refl _ _) rfl
      -- 6: law.go:28 call
      apply told_is
      · intro W f hW hE h0 K hK
        have e44 : f 44 = _ := hE 0 44 _ rfl (by kernel_rfl)
        clear hE h0
        refine yes_of (want_free rfl) ?_
        go_simp
        refine (refSum_any _ _ hT64).mono ?_
        rintro e w1 ⟨rfl, g⟩
        rw [show (⟨(shaS T.data.toList).toArray⟩ : ByteArray) = sumB T from rfl, HS.out]
        exact ⟨_, rfl, hK _ _ g rfl⟩
      -- 7: law.go:28 binOp
      apply told_is
      · intro W f hW hE h0 K hK
        have e42 : f 42 = _ := hE 3 42 _ rfl (by kernel_rfl)
        have e45 : f 45 = _ := hE 0 45 _ rfl (by kernel_rfl)
        clear hE h0
        refine yes_of (want_free rfl) ?_
        go_simp; exact hK _ _ (gb_refl _ _) rfl
      -- 8: law.go:28 move
      apply told_is
      · intro W f hW hE h0 K hK
        have e46 : f 46 = _ := hE 0 46 _ rfl (by kernel_rfl)
        clear hE h0
        refine yes_of (want_free rfl) ?_
        go_simp; exact hK _ _ (gb_refl _ _) rfl
      -- 9: law.go:28 call
      apply told_is
      · intro W f hW hE h0 K hK
        have e47 : f 47 = _ := hE 0 47 _ rfl (by kernel_rfl)
        clear hE h0
        refine yes_of (want_yes rfl rfl e47) ?_
        go_simp
        refine (awake_any _ (hTW.keep hW (by simp))).mono ?_
        rintro e w1 ⟨rfl, g⟩
        exact ⟨_, rfl, hK _ _ g rfl⟩
      -- 10: law.go:28 pick
      apply told_is
      · intro W f hW hE h0 K hK
        have e47 : f 47 = _ := hE 1 47 _ rfl (by kernel_rfl)
        have e48 : f 48 = _ := hE 0 48 _ rfl (by kernel_rfl)
        clear hE h0
        refine yes_of (want_free rfl) ?_
        go_simp; exact hK _ _ (gb_refl _ _) rfl
      -- 11: law.go:28 assign
      apply told_is
      · intro W f hW hE h0 K hK
        have e49 : f 49 = _ := hE 0 49 _ rfl (by kernel_rfl)
        clear hE h0
        refine yes_of (want_free rfl) ?_
        go_simp; exact hK _ _ (gb_refl _ _) rfl
      intro W f hW hA
      simp only [lexIn, Act.put, List.setIfInBounds_toArray, List.set_cons_zero, List.set_cons_succ]
      have e4 : f 4 = _ := hA 0 (some 4) _ rfl
      rw [e4]
      clear hA
      go_wp2_with fail
      go_ret
      exact ⟨rfl, below_of (gb_none hg hW)⟩

def zs1 : List Int := [1779033703, 3144134277, 1013904242, 2773480762, 1359893119, 2600822924, 528734635, 1541459225]
def zs2 : List Int := [1116352408, 1899447441, 3049323471, 3921009573, 961987163, 1508970993, 2453635748, 2870763221, 3624381080, 310598401, 607225278, 1426881987, 1925078388, 2162078206, 2614888103, 3248222580, 3835390401, 4022224774, 264347078, 604807628, 770255983, 1249150122, 1555081692, 1996064986, 2554220882, 2821834349, 2952996808, 3210313671, 3336571891, 3584528711, 113926993, 338241895, 666307205, 773529912, 1294757372, 1396182291, 1695183700, 1986661051, 2177026350, 2456956037, 2730485921, 2820302411, 3259730800, 3345764771, 3516065817, 3600352804, 4094571909, 275423344, 430227734, 506948616, 659060556, 883997877, 958139571, 1322822218, 1537002063, 1747873779, 1955562222, 2024104815, 2227730452, 2361852424, 2428436474, 2756734187, 3204031479, 3329325298]
theorem tabs {W : World} (h : laidMetH Tryd.prog Rows.shaLongRow.laid W) : Tabs W := by
  have h1 : Lib.TabIs Tryd.prog W "deaddrop/sha.opening" .u32 zs1 := Lib.tabIs_of_head (rest := [("deaddrop/sha.roundNumbers", Rows.laid_deaddrop_sha_roundNumbers)]) (g := 0) (t := 43) (e := 42) (n := 8) (by kernel_rfl) (by kernel_rfl) Tryd.underlying43 Tryd.underlying42 (by kernel_rfl) (by kernel_rfl) h
  have h2 : Lib.TabIs Tryd.prog W "deaddrop/sha.roundNumbers" .u32 zs2 := Lib.tabIs_of_head (rest := []) (g := 3) (t := 82) (e := 42) (n := 64) (by kernel_rfl) (by kernel_rfl) Tryd.underlying82 Tryd.underlying42 (by kernel_rfl) (by kernel_rfl) (laidMetH.filter (fun x => x.1 == "deaddrop/sha.roundNumbers") h)
  have e1 : ∀ i, i < 8 → zs1.getD i 0 = ((firstH.getD i 0).toNat : Int) := by decide
  have e2 : ∀ i, i < 64 → zs2.getD i 0 = ((konst.getD i 0).toNat : Int) := by decide +kernel
  have c1 : ∀ i, i < 8 → W.cell? ⟨0, i, none⟩ = some (w32 (firstH.getD i 0)) := fun i hi => by
    have := h1.cell (g := 0) (by kernel_rfl) i (by rw [show zs1.length = 8 from rfl]; exact hi)
    rw [e1 i hi] at this; exact this
  have c2 : ∀ i, i < 64 → W.cell? ⟨3, i, none⟩ = some (w32 (konst.getD i 0)) := fun i hi => by
    have := h2.cell (g := 3) (by kernel_rfl) i (by rw [show zs2.length = 64 from rfl]; exact hi)
    rw [e2 i hi] at this; exact this
  exact ⟨block_lt_of_cell (c2 0 (by decide)), c1, c2⟩

set_option maxRecDepth 100000 in
theorem contract (H : Type) (enc : TypeId × Value → H) (W : World) (base : Nat) (args : Array Value) (ds gs : List (DataW H)) (before : List MemPlace)
    (hval0 : ∀ (j : Nat) t v, Tryd.f4.params[j]? = some t → args[j]? = some v → Value.okWide Tryd.prog W .any base t v)
    (hW : DataW.Whole enc Tryd.prog Tryd.f4.params.toList Rows.shaLongSpec.vars false W args.toList ds gs before) (hL : laidMetH Tryd.prog Rows.shaLongRow.laid W) :
    Calls Tryd.prog 4 args W fun e W' => ∃ v, e = .returned v ∧ Rows.shaLongSpec.post enc Tryd.prog Tryd.f4 false true false false W args v W' := by
  have hval : ∀ (j : Nat) t v, Tryd.f4.params[j]? = some t → args[j]? = some v → Value.okWide Tryd.prog W .any base t v := hval0
  have hW' := hW
  obtain ⟨p, q, hA0, hV, rfl, hfz, hnd⟩ := hW
  have hA : DataW.TrodAll enc Tryd.prog W 0 (fun _ => true) true Tryd.f4.params.toList args.toList ds p := hA0
  rw [Tryd.params4] at hA hval
  obtain ⟨v0, vs0, d0, ds0, p0, q0, hargs, rfl, rfl, h0, r0⟩ := trodAll_cons hA
  obtain ⟨v1, vs1, d1, ds1, p1, q1, rfl, rfl, rfl, h1, r1⟩ := trodAll_cons r0
  obtain ⟨rfl, rfl, rfl⟩ := trodAll_nil r1
  obtain rfl : args = #[v0, v1] := by cases args; simp_all
  obtain ⟨rfl, rfl⟩ := trodVars_none hV
  obtain ⟨a0, len0, cap0, rfl⟩ := okWide_slice Tryd.underlying26 (hval 0 26 v0 rfl rfl)
  have k0 := h0
  have lt0 : ∀ x ∈ p0, x.block < W.heap.size := by obtain ⟨m, hm⟩ := k0; exact DataW.trod_lt m _ _ _ hm
  obtain ⟨z0, w0⟩ : ∃ zs, IsRow .u8 W a0 len0 cap0 zs := by
    obtain ⟨fuel, hf⟩ := h0
    rcases open_ints Tryd.underlying26 Tryd.underlying5 (by kernel_rfl) hf with ⟨hcs, _⟩ | ⟨x, l, c, zs, hcs, _, hl, hm, hz, _, hcell, hwz⟩
    · simp [Value.cells] at hcs
      obtain ⟨rfl, rfl, rfl⟩ := hcs
      exact ⟨[], .inl ⟨rfl, rfl, rfl, rfl⟩⟩
    · simp [Value.cells] at hcs
      obtain ⟨rfl, rfl, rfl⟩ := hcs
      exact ⟨zs, .inr ⟨_, rfl, hl, hm, by simpa using hz, hcell, hwz⟩⟩
  obtain ⟨a1, rfl, rfl, rfl, w1⟩ := open_int Tryd.underlying5 (hval 1 5 v1 rfl rfl) h1
  clear hA0 hval0
  refine (walk a0 len0 cap0 z0 a1 W w0 w1 (tabs hL)).mono fun e W' ⟨he, bel⟩ => ?_
  subst he
  exact ⟨_, rfl, _, _, _, [], _, [], hW', trodAll_mk1 (shut_bool Tryd.underlying4 _), (trodAll_cons_mk (Below.trod laidOut (by kernel_rfl) (of_decide_eq_true (by kernel_rfl)) k0 bel lt0) (trodAll_cons_mk (shut_int Tryd.underlying5 w1) trodAll_mk0)), rfl, bel.frame _, fun h => by cases h⟩

def lay (cs : Array Value) : Obj → Obj
  | .cells _ t frozen => .cells cs t frozen
  | o => o
noncomputable def laidWorld (os : Os) : World :=
  { World.holding Tryd.prog os ⟨#[], #[], []⟩ with heap := ((World.holding Tryd.prog os ⟨#[], #[], []⟩).heap.modify 0 (lay #[.int .u32 1779033703, .int .u32 3144134277, .int .u32 1013904242, .int .u32 2773480762, .int .u32 1359893119, .int .u32 2600822924, .int .u32 528734635, .int .u32 1541459225])).modify 3 (lay #[.int .u32 1116352408, .int .u32 1899447441, .int .u32 3049323471, .int .u32 3921009573, .int .u32 961987163, .int .u32 1508970993, .int .u32 2453635748, .int .u32 2870763221, .int .u32 3624381080, .int .u32 310598401, .int .u32 607225278, .int .u32 1426881987, .int .u32 1925078388, .int .u32 2162078206, .int .u32 2614888103, .int .u32 3248222580, .int .u32 3835390401, .int .u32 4022224774, .int .u32 264347078, .int .u32 604807628, .int .u32 770255983, .int .u32 1249150122, .int .u32 1555081692, .int .u32 1996064986, .int .u32 2554220882, .int .u32 2821834349, .int .u32 2952996808, .int .u32 3210313671, .int .u32 3336571891, .int .u32 3584528711, .int .u32 113926993, .int .u32 338241895, .int .u32 666307205, .int .u32 773529912, .int .u32 1294757372, .int .u32 1396182291, .int .u32 1695183700, .int .u32 1986661051, .int .u32 2177026350, .int .u32 2456956037, .int .u32 2730485921, .int .u32 2820302411, .int .u32 3259730800, .int .u32 3345764771, .int .u32 3516065817, .int .u32 3600352804, .int .u32 4094571909, .int .u32 275423344, .int .u32 430227734, .int .u32 506948616, .int .u32 659060556, .int .u32 883997877, .int .u32 958139571, .int .u32 1322822218, .int .u32 1537002063, .int .u32 1747873779, .int .u32 1955562222, .int .u32 2024104815, .int .u32 2227730452, .int .u32 2361852424, .int .u32 2428436474, .int .u32 2756734187, .int .u32 3204031479, .int .u32 3329325298]) }
theorem laid_met (os : Os) : laidMet Tryd.prog Rows.shaLongRow.laid ((laidWorld os).forCall (fun _ _ => 0) ⟨#[], #[.slice none 0 0, .int .u8 0], []⟩).memory :=
  laidMet_of_run' 8 (by kernel_rfl) (by kernel_rfl)
theorem reads (os : Os) {H : Type} (enc : TypeId × Value → H) : ∃ places, DataW.whole enc Tryd.prog ((laidWorld os).forCall (fun _ _ => 0) ⟨#[], #[.slice none 0 0, .int .u8 0], []⟩).memory Tryd.f4.params.toList Rows.shaLongSpec.vars false (show Array Value from #[.slice none 0 0, .int .u8 0]).toList 8 = some ([.nil, .lit (.int .u8 0)], [], places) :=
  ⟨[], by kernel_rfl⟩

set_option maxRecDepth 100000 in
theorem lifted (os : Os) (started : os.Started) (H : Type) (enc : TypeId × Value → H) (F : Stop.Interp) :
    ReturnsInHanded {} Tryd.checked os 4 .any ((OpenSpec.ofChange Rows.shaLongSpec).preRow enc Tryd.prog Tryd.f4 Rows.shaLongRow.domain false Rows.shaLongRow.laid) (((OpenSpec.ofChange Rows.shaLongSpec).at F).post enc Tryd.prog Tryd.f4 false true false false) := by
  obtain ⟨places, hx⟩ := reads os enc
  refine returnsInHanded_of_row (C := Tryd.checked) (s := OpenSpec.ofChange Rows.shaLongSpec) own started (by kernel_rfl) Tryd.func4
    (witness_row_at (enc := enc) (C := Tryd.checked) false (laidWorld os) #[.slice none 0 0, .int .u8 0] rfl (by kernel_rfl) (by kernel_rfl) (by kernel_rfl)
      (OpenSpec.preRow_of_cond 8 hx (by kernel_rfl) (fun k hk => by cases hk) (by kernel_rfl) (laid_met os))) ?_
  intro W base args ds gs before hval hW _ _ _ hL _ _
  exact contract H enc W base args ds gs before hval hW hL

theorem said : Rows.ShaLongSaid :=
  OpenClaim.holds_of_cond 4 Tryd.f4 rfl rfl rfl rfl rfl rfl rfl ⟨rfl, rfl, rfl, rfl, rfl⟩ rfl rfl rfl rfl rfl (by kernel_rfl) Tryd.func4 (by kernel_rfl)
    (of_decide_eq_true (by kernel_rfl)) (by unfold Func.isWrapper; first | (rw [if_pos (by decide +kernel)]; kernel_rfl) | (rw [if_neg (by decide +kernel)]; exact ⟨rfl, rfl⟩))
    (fun os started H enc _ F => by rw [OpenClaim.pre_eq_preRow]; exact lifted os started H enc F)

theorem plain (f : FuncId) (fn : Func) (hf : Tryd.pinned.checked.prog.funcNamed "deaddrop/deaddroplaw2.ShaLong" = some f) (hfn : Tryd.pinned.checked.prog.funcs[f]? = some fn) :
    true = Tryd.pinned.checked.prog.looks [] ∧ ∀ (j : Nat) t, fn.params[j]? = some t → Tryd.pinned.checked.prog.wantsStandIn t = false := by
  obtain rfl : f = 4 := Option.some.inj ((show Tryd.prog.funcNamed "deaddrop/deaddroplaw2.ShaLong" = some 4 by kernel_rfl).symm.trans hf) |>.symm
  obtain rfl : fn = Tryd.f4 := (Option.some.inj (Tryd.func4.symm.trans hfn)).symm
  refine ⟨by kernel_rfl, fun j t ht => ?_⟩
  have hall : (Tryd.f4.params.toList.all fun u => !Tryd.prog.wantsStandIn u) = true := by kernel_rfl
  have hm : t ∈ Tryd.f4.params.toList := by simpa using Array.mem_of_getElem? ht
  exact (show Tryd.prog.wantsStandIn t = false by simpa using List.all_eq_true.1 hall t hm)

theorem card : Rows.ShaLongCardSaid :=
  Claim7.holds_tied_plain_at .later [] _ _ _ _ said (fun _ h => by cases h) (by kernel_rfl) (fun _ h => by cases h) shaLong_row_tie rfl ⟨rfl, rfl⟩ (by kernel_rfl) rfl plain (by kernel_rfl)
#print axioms card
end Go.Proofs.YtalobkggpdniaaaDoor.shaLong
