/-
  Proved: whatever values of its parameters' types it is called with, deaddroplaw1.ChachaKnown returns true, and each argument reads behind the call as it read before.
  Conditions: none but those of the row itself.
  (The frame round the walk was written by the kit's proof-skeleton.mjs.)
-/
import Derived.Test.YtkeincmmcdcggaaRows
import Derived.WalkKit
import Derived.ProofKit
import Derived.OpenShut
import Derived.ShutString
import Derived.Test.YtkeincmmcdcggaaHelp
import Derived.Test.YtkeincmmcdcggaaTold
import Derived.IntWalk
import Derived.BigQuiet
import Derived.Great.BuildSlice
import Derived.Lib.SlBytesConst
import Derived.Below
namespace Go.Proofs.Ytkeincmmcdcggaa.chachaKnown
open Go.ChangeShapes Go.WideShapes Go.ChangeAt Go.RowKit
open Go.ChangeMaps (open_string shut_string)
open Go.Proofs.Ytkeincmmcdcggaa.Wd Go.Proofs.Ytkeincmmcdcggaa.Mm
set_option linter.unusedVariables false      -- a walk need not use every 'w<i>' (that an integer argument fits its kind)

theorem own : ownKnob Try.prog.godebug = none := by kernel_rfl

def ladies : List UInt8 := [76, 97, 100, 105, 101, 115, 32, 97, 110, 100, 32, 71, 101, 110, 116, 108, 101, 109, 101, 110, 32, 111, 102, 32, 116, 104, 101, 32, 99, 108, 97, 115, 115, 32, 111, 102, 32, 39, 57, 57, 58, 32, 73, 102, 32, 73, 32, 99, 111, 117, 108, 100, 32, 111, 102, 102, 101, 114, 32, 121, 111, 117, 32, 111, 110, 108, 121, 32, 111, 110, 101, 32, 116, 105, 112, 32, 102, 111, 114, 32, 116, 104, 101, 32, 102, 117, 116, 117, 114, 101, 44, 32, 115, 117, 110, 115, 99, 114, 101, 101, 110, 32, 119, 111, 117, 108, 100, 32, 98, 101, 32, 105, 116, 46]
def zz : ByteArray := ⟨(List.replicate 32 0).toArray⟩
def zn : ByteArray := ⟨(List.replicate 12 0).toArray⟩
def lk : ByteArray := ⟨(bytesS [] 32).toArray⟩
def ln : ByteArray := ⟨#[0, 0, 0, 0, 0, 0, 0, 74, 0, 0, 0, 0]⟩
theorem known_s : (blockA zz zn 0).data.toList.take 8 = [118, 184, 224, 173, 160, 241, 61, 144] := by decide +kernel
theorem known_s64 : (blockA zz zn 0).data.toList.length = 64 := by decide +kernel
theorem known_t : (blockA zz zn 1).data.toList.take 4 = [159, 7, 231, 190] := by decide +kernel
theorem known_t64 : (blockA zz zn 1).data.toList.length = 64 := by decide +kernel
theorem known_b : (xorS lk.data.toList ln.data.toList 1 ladies).take 8 = [110, 46, 53, 154, 37, 104, 249, 128] := by decide +kernel
theorem known_fit : fitsB lk.size ln.size 1 (1 + ((114 : Int) - 1) / 64) = true := by decide +kernel
def made (n : Nat) : Array Value := madeCells #[.int .u8 0] n
theorem made_eq (n : Nat) : made n = ((List.replicate n (0 : UInt8)).map w8).toArray := by
  unfold made
  apply Array.ext_getElem?
  intro i
  by_cases h : i < n
  · simp [madeCells, h, w8, Nat.mod_one]
  · rw [Array.getElem?_eq_none (by rw [size_madeCells]; omega), Array.getElem?_eq_none (by simp; omega)]
theorem make_at (n : Nat) (hn : n ≤ 1024) (W : World) : (Instr.makeSlice 25 (.int .i64 (n : Int)) (.int .i64 (n : Int))).run Try.prog W = .ok (.slice (some ⟨W.heap.size, 0, none⟩) n n) (W.alloc (.cells (made n) 5)) :=
  run_make_row' (P := Try.prog) 25 5 (.int .u8 0) 1 Try.underlying25 byte_info rfl .i64 .i64 n (by omega) (by omega) W
def ladiesI : List Int := ladies.map fun b => (b.toNat : Int)
def ladC : Array Value := (ladiesI.map (Value.int .u8)).toArray
theorem ladies_eq : (ladiesI.map (Value.int .u8)).toArray = (ladies.map w8).toArray := by
  unfold ladiesI
  rw [List.map_map]; rfl
theorem ladies_len : ladies.length = 114 := by decide +kernel
theorem ladies_lenI : 114 = ladiesI.length := by decide +kernel
theorem byte_zero : ((Try.prog.info? 5).bind (·.zero)).isSome = true := by kernel_rfl
theorem byte_one : (Try.prog.info? 5).map (·.size) = some 1 := by kernel_rfl
theorem known_xor : xorA lk ln 1 ladies = xorS lk.data.toList ln.data.toList 1 ladies := by
  unfold xorA
  rw [ladies_len, if_neg (by decide)]
  exact if_pos known_fit
/-- A row's head, as a string. -/
theorem head_string {w : World} {g c : Nat} {l : List UInt8} (n : Nat) (hn : n ≤ l.length) (h : Row w g 5 (l.map w8).toArray) (W : World) (hW : w.grownBy W none) :
    (convert 25 9 (.slice (some ⟨g, 0, none⟩) n c)).run Try.prog W = .ok (.string ⟨(l.take n).toArray⟩) W := by
  have r := run_convert_bytes_back (P := Try.prog) W 25 9 5 ⟨g, 0, none⟩ c (l.take n) Try.underlying25 Try.underlying5 Try.underlying9 (fun j hj => by
    have hj' : j < n := by rw [List.length_take] at hj; omega
    have hadd : (⟨g, 0, none⟩ : Addr).add j = ⟨g, j, none⟩ := by unfold Addr.add; split <;> simp_all
    rw [hadd]
    refine (h.kept hW (by simp)).at_ ?_
    have hl : j < l.length := by omega
    simp [hl, w8])
  rw [List.length_take, Nat.min_eq_left hn] at r
  exact r
theorem rowF_holds {w : World} {g : Nat} {t : TypeId} {l : List UInt8} (h : RowF w g t (l.map w8).toArray) : Holds w (some ⟨g, 0, none⟩) l.length l := by
  refine ⟨rfl, fun _ => ⟨g, 0, rfl, ?_, fun i hi => ?_⟩⟩
  · obtain ⟨f, _, h⟩ := h
    exact (Array.getElem?_eq_some_iff.1 h).1
  · rw [Nat.zero_add]
    refine h.at_ ?_
    simp [hi]
theorem row_holds {w : World} {g : Nat} {t : TypeId} {l : List UInt8} (h : Row w g t (l.map w8).toArray) : Holds w (some ⟨g, 0, none⟩) l.length l := by
  refine ⟨rfl, fun _ => ⟨g, 0, rfl, h.lt, fun i hi => ?_⟩⟩
  rw [Nat.zero_add]
  refine h.at_ ?_
  simp [hi]
theorem zero_list (key non : List UInt8) (c : Int) : xorS key non c (List.replicate 64 0) = streamOf (stir (initW key non (UInt32.ofInt c))) := by
  have e : initW key non (UInt32.ofInt c) = wsAt key non c 0 := by rw [← ctr_zero]; rfl
  rw [e]
  apply List.ext_getElem (by rw [xorS_len, streamOf_len, List.length_replicate])
  intro i h2 h3
  rw [streamOf_len] at h3
  rw [streamOf_get]
  simp only [xorS, List.getElem_map, List.getElem_range]
  rw [zerosD]
  unfold keyB
  rw [show i / 64 = 0 by omega, show i % 64 = i by omega]
  simp [xb]
theorem zero_turned (key non : ByteArray) (c : Int) (h0 : 0 ≤ c) (h1 : c ≤ 255) (hk : key.size = 32) (hn : non.size = 12) : (⟨(xorA key non c (List.replicate 64 0)).toArray⟩ : ByteArray) = blockA key non c := by
  rw [blockA_fit key non c hk hn h0 (by omega)]
  have hx : xorA key non c (List.replicate 64 0) = xorS key.data.toList non.data.toList c (List.replicate 64 0) := by
    unfold xorA
    rw [List.length_replicate, if_neg (by decide), if_pos]
    simp only [fitsB, decide_eq_true_eq]
    exact ⟨hk, hn, by omega, by omega⟩
  rw [hx, zero_list]
def z64 : List UInt8 := List.replicate 64 0
theorem z64_len : z64.length = 64 := by simp [z64]
theorem zero_same (key non : ByteArray) (c : Int) (h0 : 0 ≤ c) (h1 : c ≤ 255) (hk : key.size = 32) (hn : non.size = 12) : xorA key non c z64 = (blockA key non c).toList := by
  rw [← zero_turned key non c h0 h1 hk hn, ByteArray.toList_eq]
  simp [z64]
theorem made_z64 : made 64 = (z64.map w8).toArray := made_eq 64
theorem z64_holds {w : World} {g : Nat} (h : Row w g 5 (z64.map w8).toArray) : Holds w (some ⟨g, 0, none⟩) 64 z64 := by
  have r := row_holds h
  rw [z64_len] at r; exact r
def toldV (l : List UInt8) : Td.Spec := fun W v => Told 0 W v l
theorem told_0 {B : Nat} {w : World} {v : Value} {l : List UInt8} (h : Told B w v l) : toldV l w v := by
  rcases h with h | ⟨hn, g, hv, _, hr⟩
  · exact .inl h
  · exact .inr ⟨hn, g, hv, Nat.zero_le _, hr⟩
theorem told_stays {l : List UInt8} : Td.Stays (fun a b => a.grownBy b none) (toldV l) := fun _ _ _ h k => Told.keep k h
def rowV (n : Nat) (l : List UInt8) : Td.Spec := fun W v => ∃ g, v = .slice (some ⟨g, 0, none⟩) n n ∧ Row W g 5 (l.map w8).toArray
theorem row_stays {n : Nat} {l : List UInt8} : Td.Stays (fun a b => a.grownBy b none) (rowV n l) := fun _ _ _ h ⟨g, hv, hr⟩ => ⟨g, hv, hr.kept h (by simp)⟩
open Td
attribute [local go_sem] upon_value upon_skip upon_enter upon_row look_tmp look_const look_func look_global

set_option maxHeartbeats 40000000 in
set_option maxRecDepth 100000 in
theorem walk (a0 : Int) (a1 : Bool) (w0 : (Lit.int .u8 a0).wf = true) (w : World) :
    Calls Try.prog 8 #[.int .u8 a0, .bool a1] w fun e w' => e = .returned (.bool true) ∧ Below w.heap.size w w' := by
  obtain ⟨hx0, hx1⟩ : 0 ≤ a0 ∧ a0 ≤ 255 := by
    have h1 : IntKind.u8.min = 0 := by decide
    have h2 : IntKind.u8.max = 255 := by decide
    simp only [Lit.wf, h1, h2, Bool.and_eq_true, decide_eq_true_eq] at w0
    exact w0
  clear w0
  have hm32 : ∀ W : World, (Instr.makeSlice 25 (.int .i64 32) (.int .i64 32)).run Try.prog W = .ok (.slice (some ⟨W.heap.size, 0, none⟩) 32 32) (W.alloc (.cells (made 32) 5)) := make_at 32 (by decide)
  have hm64 : ∀ W : World, (Instr.makeSlice 25 (.int .i64 64) (.int .i64 64)).run Try.prog W = .ok (.slice (some ⟨W.heap.size, 0, none⟩) 64 64) (W.alloc (.cells (made 64) 5)) := make_at 64 (by decide)
  have hcz : (convert 25 9 (.slice (some ⟨w.heap.size, 0, none⟩) 32 32)).run Try.prog (w.alloc (.cells (made 32) 5)) = .ok (.string zz) (w.alloc (.cells (made 32) 5)) := by
    rw [made_eq]
    exact run_convert_bytes_back (P := Try.prog) _ 25 9 5 ⟨w.heap.size, 0, none⟩ 32 (List.replicate 32 0) Try.underlying25 Try.underlying5 Try.underlying9 (row_bytes (Row.new w _ _))
  have hs : zz.size = 32 := by decide +kernel
  have he : zz.extract 0 12 = zn := by decide +kernel
  have hs1 : (12 : Int) ≤ (zz.size : Int) := by rw [hs]; decide
  have hs2 : 12 ≤ zz.size := by rw [hs]; decide
  obtain ⟨S, HS⟩ : ∃ S, Hid (blockA zz zn 0 = S) := ⟨_, rfl⟩
  obtain ⟨T, HT⟩ : ∃ S, Hid (blockA zz zn 1 = S) := ⟨_, rfl⟩
  have hS64 : S.size = 64 := by rw [← HS.out, ← len_data]; exact known_s64
  have hT64 : T.size = 64 := by rw [← HT.out, ← len_data]; exact known_t64
  have t1 : ((S.size : Int) != 64) = false := by rw [hS64]; rfl
  have t2 : ((T.size : Int) != 64) = false := by rw [hT64]; rfl
  have q1 : (8 : Int) ≤ (S.size : Int) := by rw [hS64]; decide
  have q2 : (4 : Int) ≤ (T.size : Int) := by rw [hT64]; decide
  have q3 : 8 ≤ S.size := by rw [hS64]; decide
  have q4 : 4 ≤ T.size := by rw [hT64]; decide
  have eS : ((S.extract 0 8).toList == [118, 184, 224, 173, 160, 241, 61, 144]) = true := by
    rw [ByteArray.toList_eq, ByteArray.data_extract, Array.toList_extract, ← HS.out]
    rw [show (blockA zz zn 0).data.toList.extract 0 8 = (blockA zz zn 0).data.toList.take 8 by simp, known_s]; rfl
  have eT : ((T.extract 0 4).toList == [159, 7, 231, 190]) = true := by
    rw [ByteArray.toList_eq, ByteArray.data_extract, Array.toList_extract, ← HT.out]
    rw [show (blockA zz zn 1).data.toList.extract 0 4 = (blockA zz zn 1).data.toList.take 4 by simp, known_t]; rfl
  clear hs hS64 hT64
  go_enter Try.func8, Try.ntmps8
  go_wp2_with fail
  have g0 : w.grownBy (w.alloc (.cells (made 32) 5)) none := gb_alloc (gb_refl _ _) _
  generalize w.alloc (.cells (made 32) 5) = wa at *
  refine (block_any _ _ _ _).mono ?_
  rintro e y1 ⟨rfl, k1⟩
  rw [HS.out]
  go_wp2_with fail
  refine (block_any _ _ _ _).mono ?_
  rintro e y2 ⟨rfl, k2⟩
  rw [HT.out]
  have g2 := gb_none (gb_none g0 k1) k2
  clear g0 k1 k2 hcz
  go_wp2_with fail
  refine (bytes_any none 0 0 32 [] _ ⟨rfl, fun h => absurd h (by omega)⟩ (by omega) (by omega)).mono ?_
  rintro e y3 ⟨rfl, k3⟩
  rw [show (⟨(bytesS [] 32).toArray⟩ : ByteArray) = lk from rfl]
  have g3 := gb_none g2 k3
  clear g2 k3
  have hcs := Lib.run_convert_bytes_const (P := Try.prog) y3 25 5 ladC 114 114 Try.underlying25 Try.underlying5
  go_wp2_with (refine wpList_buildFlat rfl 25 5 114 _ rfl .u8 ladiesI Try.underlying25 byte_one byte_zero ladies_lenI (by decide) (by decide) (by kernel_rfl) ?_; rw [show (ladiesI.map (Value.int .u8)).toArray = ladC from rfl])
  have hh : Holds (y3.alloc (.cells ladC 5 (ladC.size, ladC.size + 1))) (some ⟨y3.heap.size, 0, none⟩) 114 ladies := by
    have h := rowF_holds (w := y3.alloc (.cells ladC 5 (ladC.size, ladC.size + 1))) (g := y3.heap.size) (t := 5) (l := ladies) (by
      rw [← ladies_eq]
      exact ⟨ladC.size, Nat.le_refl _, heap_alloc_new _ _⟩)
    rw [ladies_len] at h
    exact h
  have g4 := gb_alloc g3 (.cells ladC 5 (ladC.size, ladC.size + 1))
  rw [show (⟨#[0, 0, 0, 0, 0, 0, 0, 74, 0, 0, 0, 0]⟩ : ByteArray) = ln from rfl]
  generalize y3.alloc (.cells ladC 5 (ladC.size, ladC.size + 1)) = wc at *
  clear g3 hcs
  refine (xor_any lk ln 1 _ 114 114 ladies _ (by decide) hh).mono ?_
  rintro e y5 ⟨v, rfl, k5, t5⟩
  rw [known_xor] at t5
  have g5 := gb_none g4 k5
  have hlen : (xorS lk.data.toList ln.data.toList 1 ladies).length = 114 := by rw [xorS_len, ladies_len]
  have htk := known_b
  generalize xorS lk.data.toList ln.data.toList 1 ladies = bx at *
  obtain ⟨gx, rfl, hrow⟩ : ∃ g, v = .slice (some ⟨g, 0, none⟩) 114 114 ∧ Row y5 g 5 (bx.map w8).toArray := by
    rcases t5 with ⟨he, _⟩ | ⟨_, g, hv, _, hr⟩
    · rw [he] at hlen; simp at hlen
    · exact ⟨g, by rw [hv, hlen], hr⟩
  have hb8 : ∀ W, y5.grownBy W none → (convert 25 9 (.slice (some ⟨gx, 0, none⟩) 8 114)).run Try.prog W = .ok (.string ⟨#[110, 46, 53, 154, 37, 104, 249, 128]⟩) W := by
    intro W hW
    have h := head_string (c := 114) 8 (by rw [hlen]; decide) hrow W hW
    rw [htk] at h
    exact h
  clear hh g4 k5 t5 htk hlen
  have r0 := gb_refl y5 none
  have hgd := fun W => gb_drew_eq y5 W none
  cases a1
  · go_wp2_with fail
    refine wp_region_quiet (C := fun W => y5.grownBy W none) (by kernel_rfl) (by kernel_rfl) (gb_drew r0) ?_
    simp only []
    repeat go_big_quiet_step ((first | (intros; rfl) | (intro hW; rw [hb8 _ hW]; exact ⟨rfl, rfl⟩) | (intro hW; refine (awake_any _).mono ?_; rintro e y6 ⟨rfl, k6⟩; exact ⟨rfl, gb_none hW k6⟩)))
    refine wpQuiet_nil ?_
    intro y6 g6
    go_wp2
    go_ret
    exact ⟨rfl, below_of (gb_none g5 g6)⟩
  · have Hq := Lib.hid (zero_same zz zn a0 hx0 hx1 (by decide +kernel) (by decide +kernel))
    have hs1 : (12 : Int) ≤ (zz.size : Int) := by decide +kernel
    go_wp2_with fail
    have hwa := IntWalk.i64_in a0 (by omega)
    apply wp_region_told (le := fun a b => a.grownBy b none) [isV _, isV _, isV _, isV _, isV _, isV _, isV _, isV _, isV _, isV _, isV _, isV _, isV _, isV _, isV _, isV _, isV _, isV _, isV _, isV _, isV _, isV _, isV _, isV _, isV _, isV _, isV _, isV _, rowV 64 z64, toldV (xorA zz zn a0 z64), isV _, isV _, isV _, isV _, isV _, isV _, isV _, isV _, isV _, isV _, isV _, isV _, isV _, isV _]
    case hn => rfl
    case hm => kernel_rfl
    case hB => kernel_rfl
    case ht => exact fun _ _ _ h k => gb_none h k
    case hw => exact gb_drew (gb_refl _ _)
    -- 0: more.go:17 move
    apply told_is
    · intro W f hW hE h0 K hK
      have e6 := h0 6 (by kernel_rfl)
      conv at e6 => rhs; whnf
      clear hE h0
      refine yes_of (want_free rfl) ?_
      go_simp; exact hK _ _ (gb_refl _ _) rfl
    -- 1: more.go:17 slice
    apply told_is
    · intro W f hW hE h0 K hK
      have e31 : f 31 = _ := hE 0 31 _ rfl (by kernel_rfl)
      clear hE h0
      refine yes_of (want_free rfl) ?_
      go_simp; exact hK _ _ (gb_refl _ _) rfl
    -- 2: more.go:17 binOp
    apply told_is
    · intro W f hW hE h0 K hK
      have e32 : f 32 = _ := hE 0 32 _ rfl (by kernel_rfl)
      clear hE h0
      refine yes_of (want_free rfl) ?_
      go_simp; exact hK _ _ (gb_refl _ _) rfl
    -- 3: more.go:17 move
    apply told_is
    · intro W f hW hE h0 K hK
      have e33 : f 33 = _ := hE 0 33 _ rfl (by kernel_rfl)
      clear hE h0
      refine yes_of (want_free rfl) ?_
      go_simp; exact hK _ _ (gb_refl _ _) rfl
    -- 4: more.go:17 move
    apply told_is
    · intro W f hW hE h0 K hK
      have e7 := h0 7 (by kernel_rfl)
      conv at e7 => rhs; whnf
      have e34 : f 34 = _ := hE 0 34 _ rfl (by kernel_rfl)
      clear hE h0
      refine yes_of (want_yes rfl rfl e34) ?_
      go_simp; exact hK _ _ (gb_refl _ _) rfl
    -- 5: more.go:17 slice
    apply told_is
    · intro W f hW hE h0 K hK
      have e35 : f 35 = _ := hE 0 35 _ rfl (by kernel_rfl)
      have e34 : f 34 = _ := hE 1 34 _ rfl (by kernel_rfl)
      clear hE h0
      refine yes_of (want_yes rfl rfl e34) ?_
      go_simp; exact hK _ _ (gb_refl _ _) rfl
    -- 6: more.go:17 binOp
    apply told_is
    · intro W f hW hE h0 K hK
      have e36 : f 36 = _ := hE 0 36 _ rfl (by kernel_rfl)
      have e34 : f 34 = _ := hE 2 34 _ rfl (by kernel_rfl)
      clear hE h0
      refine yes_of (want_yes rfl rfl e34) ?_
      go_simp; exact hK _ _ (gb_refl _ _) rfl
    -- 7: more.go:17 pick
    apply told_is
    · intro W f hW hE h0 K hK
      have e34 : f 34 = _ := hE 3 34 _ rfl (by kernel_rfl)
      have e37 : f 37 = _ := hE 0 37 _ rfl (by kernel_rfl)
      clear hE h0
      refine yes_of (want_free rfl) ?_
      go_simp; exact hK _ _ (gb_refl _ _) rfl
    -- 8: more.go:17 move
    apply told_is
    · intro W f hW hE h0 K hK
      have e38 : f 38 = _ := hE 0 38 _ rfl (by kernel_rfl)
      clear hE h0
      refine yes_of (want_free rfl) ?_
      go_simp; exact hK _ _ (gb_refl _ _) rfl
    -- 9: more.go:17 move
    apply told_is
    · intro W f hW hE h0 K hK
      have e8 := h0 8 (by kernel_rfl)
      conv at e8 => rhs; whnf
      have e39 : f 39 = _ := hE 0 39 _ rfl (by kernel_rfl)
      clear hE h0
      refine yes_of (want_yes rfl rfl e39) ?_
      go_simp; exact hK _ _ (gb_refl _ _) rfl
    -- 10: more.go:17 call
    apply told_is
    · intro W f hW hE h0 K hK
      have e40 : f 40 = _ := hE 0 40 _ rfl (by kernel_rfl)
      have e39 : f 39 = _ := hE 1 39 _ rfl (by kernel_rfl)
      clear hE h0
      refine yes_of (want_yes rfl rfl e39) ?_
      go_simp; exact hK _ _ (gb_refl _ _) rfl
    -- 11: more.go:17 binOp
    apply told_is
    · intro W f hW hE h0 K hK
      have e41 : f 41 = _ := hE 0 41 _ rfl (by kernel_rfl)
      have e39 : f 39 = _ := hE 2 39 _ rfl (by kernel_rfl)
      clear hE h0
      refine yes_of (want_yes rfl rfl e39) ?_
      go_simp; exact hK _ _ (gb_refl _ _) rfl
    -- 12: more.go:17 pick
    apply told_is
    · intro W f hW hE h0 K hK
      have e39 : f 39 = _ := hE 3 39 _ rfl (by kernel_rfl)
      have e42 : f 42 = _ := hE 0 42 _ rfl (by kernel_rfl)
      clear hE h0
      refine yes_of (want_free rfl) ?_
      go_simp; exact hK _ _ (gb_refl _ _) rfl
    -- 13: more.go:17 move
    apply told_is
    · intro W f hW hE h0 K hK
      have e43 : f 43 = _ := hE 0 43 _ rfl (by kernel_rfl)
      clear hE h0
      refine yes_of (want_free rfl) ?_
      go_simp; exact hK _ _ (gb_refl _ _) rfl
    -- 14: more.go:17 move
    apply told_is
    · intro W f hW hE h0 K hK
      have e8 := h0 8 (by kernel_rfl)
      conv at e8 => rhs; whnf
      have e44 : f 44 = _ := hE 0 44 _ rfl (by kernel_rfl)
      clear hE h0
      refine yes_of (want_yes rfl rfl e44) ?_
      go_simp; exact hK _ _ (gb_refl _ _) rfl
    -- 15: more.go:17 slice
    apply told_is
    · intro W f hW hE h0 K hK
      have e45 : f 45 = _ := hE 0 45 _ rfl (by kernel_rfl)
      have e44 : f 44 = _ := hE 1 44 _ rfl (by kernel_rfl)
      clear hE h0
      refine yes_of (want_yes rfl rfl e44) ?_
      go_simp; exact hK _ _ (gb_refl _ _) rfl
    -- 16: more.go:17 convert
    apply told_is
    · intro W f hW hE h0 K hK
      have e46 : f 46 = _ := hE 0 46 _ rfl (by kernel_rfl)
      have e44 : f 44 = _ := hE 2 44 _ rfl (by kernel_rfl)
      clear hE h0
      refine yes_of (want_yes rfl rfl e44) ?_
      have hc := hb8 W hW
      go_simp; exact hK _ _ (gb_refl _ _) rfl
    -- 17: more.go:17 binOp
    apply told_is
    · intro W f hW hE h0 K hK
      have e47 : f 47 = _ := hE 0 47 _ rfl (by kernel_rfl)
      have e44 : f 44 = _ := hE 3 44 _ rfl (by kernel_rfl)
      clear hE h0
      refine yes_of (want_yes rfl rfl e44) ?_
      go_simp; exact hK _ _ (gb_refl _ _) rfl
    -- 18: more.go:17 pick
    apply told_is
    · intro W f hW hE h0 K hK
      have e44 : f 44 = _ := hE 4 44 _ rfl (by kernel_rfl)
      have e48 : f 48 = _ := hE 0 48 _ rfl (by kernel_rfl)
      clear hE h0
      refine yes_of (want_free rfl) ?_
      go_simp; exact hK _ _ (gb_refl _ _) rfl
    -- 19: more.go:17 move
    apply told_is
    · intro W f hW hE h0 K hK
      have e49 : f 49 = _ := hE 0 49 _ rfl (by kernel_rfl)
      clear hE h0
      refine yes_of (want_free rfl) ?_
      go_simp; exact hK _ _ (gb_refl _ _) rfl
    -- 20: more.go:17 move
    apply told_is
    · intro W f hW hE h0 K hK
      have e1 := h0 1 (by kernel_rfl)
      conv at e1 => rhs; whnf
      have e50 : f 50 = _ := hE 0 50 _ rfl (by kernel_rfl)
      clear hE h0
      refine yes_of (want_yes rfl rfl e50) ?_
      go_simp; exact hK _ _ (gb_refl _ _) rfl
    -- 21: more.go:17 unOp
    apply told_is
    · intro W f hW hE h0 K hK
      have e51 : f 51 = _ := hE 0 51 _ rfl (by kernel_rfl)
      have e50 : f 50 = _ := hE 1 50 _ rfl (by kernel_rfl)
      clear hE h0
      refine yes_of (want_yes rfl rfl e50) ?_
      go_simp; exact hK _ _ (gb_refl _ _) rfl
    -- 22: more.go:17 move
    apply told_is
    · intro W f hW hE h0 K hK
      have e52 : f 52 = _ := hE 0 52 _ rfl (by kernel_rfl)
      have e50 : f 50 = _ := hE 2 50 _ rfl (by kernel_rfl)
      clear hE h0
      refine yes_of (want_yes rfl rfl e50) ?_
      go_simp; exact hK _ _ (gb_refl _ _) rfl
    -- 23: more.go:17 move
    apply told_is
    · intro W f hW hE h0 K hK
      have e5 := h0 5 (by kernel_rfl)
      conv at e5 => rhs; whnf
      have e53 : f 53 = _ := hE 0 53 _ rfl (by kernel_rfl)
      clear hE h0
      refine yes_of (want_yes rfl rfl e53) ?_
      go_simp; exact hK _ _ (gb_refl _ _) rfl
    -- 24: more.go:17 move
    apply told_is
    · intro W f hW hE h0 K hK
      have e5 := h0 5 (by kernel_rfl)
      conv at e5 => rhs; whnf
      have e53 : f 53 = _ := hE 1 53 _ rfl (by kernel_rfl)
      clear hE h0
      refine yes_of (want_yes rfl rfl e53) ?_
      go_simp; exact hK _ _ (gb_refl _ _) rfl
    -- 25: more.go:17 slice
    apply told_is
    · intro W f hW hE h0 K hK
      have e55 : f 55 = _ := hE 0 55 _ rfl (by kernel_rfl)
      have e53 : f 53 = _ := hE 2 53 _ rfl (by kernel_rfl)
      clear hE h0
      refine yes_of (want_yes rfl rfl e53) ?_
      go_simp; exact hK _ _ (gb_refl _ _) rfl
    -- 26: more.go:17 move
    apply told_is
    · intro W f hW hE h0 K hK
      have e0 := h0 0 (by kernel_rfl)
      conv at e0 => rhs; whnf
      have e53 : f 53 = _ := hE 3 53 _ rfl (by kernel_rfl)
      clear hE h0
      refine yes_of (want_yes rfl rfl e53) ?_
      go_simp; exact hK _ _ (gb_refl _ _) rfl
    -- 27: more.go:17 convert
    apply told_is
    · intro W f hW hE h0 K hK
      have e57 : f 57 = _ := hE 0 57 _ rfl (by kernel_rfl)
      have e53 : f 53 = _ := hE 4 53 _ rfl (by kernel_rfl)
      clear hE h0
      refine yes_of (want_yes rfl rfl e53) ?_
      go_simp; exact hK _ _ (gb_refl _ _) rfl
    -- 28: more.go:17 makeSlice
    apply told_at row_stays
    · intro W f hW hE h0 K hK
      have e53 : f 53 = _ := hE 5 53 _ rfl (by kernel_rfl)
      clear hE h0
      refine yes_of (want_yes rfl rfl e53) ?_
      go_simp
      exact hK _ _ (gb_alloc (gb_refl _ _) _) ⟨_, rfl, by rw [← made_z64]; exact Row.new _ _ _⟩
    -- 29: more.go:17 call
    apply told_at told_stays
    · intro W f hW hE h0 K hK
      have e54 : f 54 = _ := hE 5 54 _ rfl (by kernel_rfl)
      have e56 : f 56 = _ := hE 3 56 _ rfl (by kernel_rfl)
      have e58 : f 58 = _ := hE 1 58 _ rfl (by kernel_rfl)
      have e59 := hE 0 59 _ rfl (by kernel_rfl)
      have e53 : f 53 = _ := hE 6 53 _ rfl (by kernel_rfl)
      clear hE h0
      refine yes_of (want_yes rfl rfl e53) ?_
      obtain ⟨g0, ev, hr⟩ := e59
      go_simp
      refine (xor_any zz zn a0 _ 64 64 z64 _ (by decide) (z64_holds hr)).mono ?_
      rintro e w1 ⟨v, rfl, g, t⟩
      exact ⟨_, rfl, hK _ _ g (told_0 t)⟩
    -- 30: more.go:17 convert
    apply told_is
    · intro W f hW hE h0 K hK
      have e60 := hE 0 60 _ rfl (by kernel_rfl)
      have e53 : f 53 = _ := hE 7 53 _ rfl (by kernel_rfl)
      clear hE h0
      refine yes_of (want_yes rfl rfl e53) ?_
      have hc := told_string e60 W (gb_refl _ _)
      go_simp; exact hK _ _ (gb_refl _ _) rfl
    -- 31: more.go:17 move
    apply told_is
    · intro W f hW hE h0 K hK
      have e5 := h0 5 (by kernel_rfl)
      conv at e5 => rhs; whnf
      have e53 : f 53 = _ := hE 8 53 _ rfl (by kernel_rfl)
      clear hE h0
      refine yes_of (want_yes rfl rfl e53) ?_
      go_simp; exact hK _ _ (gb_refl _ _) rfl
    -- 32: more.go:17 move
    apply told_is
    · intro W f hW hE h0 K hK
      have e5 := h0 5 (by kernel_rfl)
      conv at e5 => rhs; whnf
      have e53 : f 53 = _ := hE 9 53 _ rfl (by kernel_rfl)
      clear hE h0
      refine yes_of (want_yes rfl rfl e53) ?_
      go_simp; exact hK _ _ (gb_refl _ _) rfl
    -- 33: more.go:17 slice
    apply told_is
    · intro W f hW hE h0 K hK
      have e63 : f 63 = _ := hE 0 63 _ rfl (by kernel_rfl)
      have e53 : f 53 = _ := hE 10 53 _ rfl (by kernel_rfl)
      clear hE h0
      refine yes_of (want_yes rfl rfl e53) ?_
      go_simp; exact hK _ _ (gb_refl _ _) rfl
    -- 34: more.go:17 move
    apply told_is
    · intro W f hW hE h0 K hK
      have e0 := h0 0 (by kernel_rfl)
      conv at e0 => rhs; whnf
      have e53 : f 53 = _ := hE 11 53 _ rfl (by kernel_rfl)
      clear hE h0
      refine yes_of (want_yes rfl rfl e53) ?_
      go_simp; exact hK _ _ (gb_refl _ _) rfl
    -- 35: more.go:17 convert
    apply told_is
    · intro W f hW hE h0 K hK
      have e65 : f 65 = _ := hE 0 65 _ rfl (by kernel_rfl)
      have e53 : f 53 = _ := hE 12 53 _ rfl (by kernel_rfl)
      clear hE h0
      refine yes_of (want_yes rfl rfl e53) ?_
      go_simp; exact hK _ _ (gb_refl _ _) rfl
    -- 36: more.go:17 call
    apply told_is
    · intro W f hW hE h0 K hK
      have e62 : f 62 = _ := hE 4 62 _ rfl (by kernel_rfl)
      have e64 : f 64 = _ := hE 2 64 _ rfl (by kernel_rfl)
      have e66 : f 66 = _ := hE 0 66 _ rfl (by kernel_rfl)
      have e53 : f 53 = _ := hE 13 53 _ rfl (by kernel_rfl)
      clear hE h0
      refine yes_of (want_yes rfl rfl e53) ?_
      go_simp
      refine (refBlock_any _ _ _ _).mono ?_
      rintro e w1 ⟨rfl, g⟩
      exact ⟨_, rfl, hK _ _ g rfl⟩
    -- 37: more.go:17 binOp
    apply told_is
    · intro W f hW hE h0 K hK
      have e61 : f 61 = _ := hE 6 61 _ rfl (by kernel_rfl)
      have e67 : f 67 = _ := hE 0 67 _ rfl (by kernel_rfl)
      have e53 : f 53 = _ := hE 14 53 _ rfl (by kernel_rfl)
      clear hE h0
      refine yes_of (want_yes rfl rfl e53) ?_
      have hq := Hq.out
      go_simp; exact hK _ _ (gb_refl _ _) rfl
    -- 38: more.go:17 pick
    apply told_is
    · intro W f hW hE h0 K hK
      have e53 : f 53 = _ := hE 15 53 _ rfl (by kernel_rfl)
      have e68 : f 68 = _ := hE 0 68 _ rfl (by kernel_rfl)
      have e50 : f 50 = _ := hE 18 50 _ rfl (by kernel_rfl)
      clear hE h0
      refine yes_of (want_yes rfl rfl e50) ?_
      go_simp; exact hK _ _ (gb_refl _ _) rfl
    -- 39: more.go:17 pick
    apply told_is
    · intro W f hW hE h0 K hK
      have e50 : f 50 = _ := hE 19 50 _ rfl (by kernel_rfl)
      have e69 : f 69 = _ := hE 0 69 _ rfl (by kernel_rfl)
      clear hE h0
      refine yes_of (want_free rfl) ?_
      go_simp; exact hK _ _ (gb_refl _ _) rfl
    -- 40: more.go:17 move
    apply told_is
    · intro W f hW hE h0 K hK
      have e70 : f 70 = _ := hE 0 70 _ rfl (by kernel_rfl)
      clear hE h0
      refine yes_of (want_free rfl) ?_
      go_simp; exact hK _ _ (gb_refl _ _) rfl
    -- 41: more.go:17 call
    apply told_is
    · intro W f hW hE h0 K hK
      have e71 : f 71 = _ := hE 0 71 _ rfl (by kernel_rfl)
      clear hE h0
      refine yes_of (want_yes rfl rfl e71) ?_
      go_simp
      refine (awake_any _).mono ?_
      rintro e w1 ⟨rfl, g⟩
      exact ⟨_, rfl, hK _ _ g rfl⟩
    -- 42: more.go:17 pick
    apply told_is
    · intro W f hW hE h0 K hK
      have e71 : f 71 = _ := hE 1 71 _ rfl (by kernel_rfl)
      have e72 : f 72 = _ := hE 0 72 _ rfl (by kernel_rfl)
      clear hE h0
      refine yes_of (want_free rfl) ?_
      go_simp; exact hK _ _ (gb_refl _ _) rfl
    -- 43: more.go:17 assign
    apply told_is
    · intro W f hW hE h0 K hK
      have e73 : f 73 = _ := hE 0 73 _ rfl (by kernel_rfl)
      clear hE h0
      refine yes_of (want_free rfl) ?_
      go_simp; exact hK _ _ (gb_refl _ _) rfl
    intro W f hW hA
    simp only [lexIn, Act.put, List.setIfInBounds_toArray, List.set_cons_zero, List.set_cons_succ]
    have e4 : f 4 = _ := hA 0 (some 4) _ rfl
    rw [e4]
    clear hA
    go_wp2
    go_ret
    exact ⟨rfl, below_of (gb_none g5 hW)⟩

set_option maxRecDepth 100000 in
theorem lifted (os : Os) (started : os.Started) (H : Type) (enc : TypeId × Value → H) :
    ReturnsInHanded {} Try.checked os 8 .any (Rows.chachaKnownSpec.pre6 enc Try.prog Try.f8 Rows.chachaKnownRow.domain false) (Rows.chachaKnownSpec.post enc Try.prog Try.f8 false true false false) := by
  refine returnsInHanded_of_change (C := Try.checked) own started (by kernel_rfl) Try.func8
    (ChangeSpec.witness6 (enc := enc) (C := Try.checked) false ⟨#[], #[.int .u8 0, .bool false], []⟩ 8 (by kernel_rfl) (by kernel_rfl) (by kernel_rfl) (by kernel_rfl)) ?_
  intro W base args ds gs before hval0 hW hcnd _
  have hval : ∀ (j : Nat) t v, Try.f8.params[j]? = some t → args[j]? = some v → Value.okWide Try.prog W .any base t v := hval0
  have hW' := hW
  obtain ⟨p, q, hA0, hV, rfl, hfz, hnd⟩ := hW
  have hA : DataW.TrodAll enc Try.prog W 0 (fun _ => true) true Try.f8.params.toList args.toList ds p := hA0
  rw [Try.params8] at hA hval
  obtain ⟨v0, vs0, d0, ds0, p0, q0, hargs, rfl, rfl, h0, r0⟩ := trodAll_cons hA
  obtain ⟨v1, vs1, d1, ds1, p1, q1, rfl, rfl, rfl, h1, r1⟩ := trodAll_cons r0
  obtain ⟨rfl, rfl, rfl⟩ := trodAll_nil r1
  obtain rfl : args = #[v0, v1] := by cases args; simp_all
  obtain ⟨rfl, rfl⟩ := trodVars_none hV
  obtain ⟨a0, rfl, rfl, rfl, w0⟩ := open_int Try.underlying5 (hval 0 5 v0 rfl rfl) h0
  obtain ⟨a1, rfl, rfl, rfl⟩ := open_bool Try.underlying4 (hval 1 4 v1 rfl rfl) h1
  clear hA0 hval0
  simp only [List.append_nil] at hW'
  refine (walk a0 a1 w0 W).mono fun e W' ⟨he, hg⟩ => ?_
  subst he
  exact ⟨_, rfl, _, _, _, [], [], [], hW', (trodAll_cons_mk (shut_bool Try.underlying4 _) trodAll_mk0), (trodAll_cons_mk (shut_int Try.underlying5 w0) (trodAll_cons_mk (shut_bool Try.underlying4 _) trodAll_mk0)), rfl, hg.frame _, fun h => by cases h⟩

theorem over : Rows.chachaKnownRow.holds Try.pinned (OpenSpec.ofChange Rows.chachaKnownSpec) :=
  OpenClaim.holds_of_wide 8 Try.f8 rfl rfl rfl rfl rfl rfl rfl ⟨rfl, rfl, rfl, rfl, rfl⟩ rfl rfl rfl rfl rfl (by kernel_rfl) Try.func8 (by kernel_rfl)
    (of_decide_eq_true (by kernel_rfl)) (by unfold Func.isWrapper; first | (rw [if_pos (by decide +kernel)]; kernel_rfl) | (rw [if_neg (by decide +kernel)]; exact ⟨rfl, rfl⟩))
    (fun os started H enc _ => lifted os started H enc)

theorem proved : Rows.ChachaKnownSaid :=
  over
#print axioms proved
end Go.Proofs.Ytkeincmmcdcggaa.chachaKnown
