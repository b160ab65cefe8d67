/- chacha.Block: sixty-four bytes of the stream. -/
import Derived.Test.YtkeincmmcdcggaaInto
import Derived.Test.YtkeincmmcdcggaaFits
import Derived.Laws.IdiomStrings
namespace Go.Proofs.Ytkeincmmcdcggaa
open Go.RowKit Wd Mm

/-- The sixty-four bytes; the answer of Block. -/
def blockS (k n : List UInt8) (c : UInt32) : List UInt8 := streamOf (stir (initW k n c))
def blockA (key nonce : ByteArray) (c : Int) : ByteArray := if fitsB key.size nonce.size c 1 = true then ⟨(blockS key.data.toList nonce.data.toList (UInt32.ofInt c)).toArray⟩ else ⟨#[]⟩

set_option maxHeartbeats 1000000 in
theorem block_no (key nonce : ByteArray) (c : Int) (w : World) (hf : fitsB key.size nonce.size c 1 = false) :
    Calls Try.prog 10 #[.string key, .string nonce, .int .i64 c] w fun e w' => e = .returned (.string (blockA key nonce c)) ∧ w.grownBy w' none := by
  have hb : blockA key nonce c = ⟨#[]⟩ := by simp [blockA, hf]
  have Hf := Lib.hid hf
  have Hb := Lib.hid hb
  clear hf hb
  go_enter Try.func10, Try.ntmps10
  go_wp2_with fail
  refine (fits_any _ _ _ _ _ (by decide) (by decide)).mono ?_
  rintro e w' ⟨rfl, rfl⟩
  rw [Hf.out]
  go_wp2_with fail
  go_ret
  rw [Hb.out]
  exact ⟨rfl, gb_refl _ _⟩

set_option maxHeartbeats 1000000 in
set_option maxRecDepth 100000 in
theorem block_yes (key nonce : ByteArray) (c : Int) (w : World) (hk : key.size = 32) (hn : nonce.size = 12) (hf : fitsB key.size nonce.size c 1 = true) :
    Calls Try.prog 10 #[.string key, .string nonce, .int .i64 c] w fun e w' => e = .returned (.string (blockA key nonce c)) ∧ w.grownBy w' none := by
  have hb : blockA key nonce c = ⟨(blockS key.data.toList nonce.data.toList (UInt32.ofInt c)).toArray⟩ := by simp [blockA, hf]
  have Hf := Lib.hid hf
  have Hb := Lib.hid hb
  have Hk := Lib.hid hk
  have Hn := Lib.hid hn
  clear hf hb hk hn
  go_enter Try.func10, Try.ntmps10
  go_wp2_with fail
  refine (fits_any _ _ _ _ _ (by decide) (by decide)).mono ?_
  rintro e w' ⟨rfl, rfl⟩
  rw [Hf.out]
  go_wp2_with fail
  refine (start_any _ _ _ _ Hk.out Hn.out).mono ?_
  rintro e w1 ⟨rfl, g1⟩
  have hl0 : (initW key.data.toList nonce.data.toList (UInt32.ofInt c)).length = 16 := rfl
  have hsz := init_size key.data.toList nonce.data.toList (UInt32.ofInt c)
  have hone := words_one (initW key.data.toList nonce.data.toList (UInt32.ofInt c))
  have hsz2 : (Try.prog.info? 39).map (·.size) = some ((stir (initW key.data.toList nonce.data.toList (UInt32.ofInt c))).map w32).toArray.size := by rw [size39]; simp [stir_len, hl0]
  have hone2 := words_one (stir (initW key.data.toList nonce.data.toList (UInt32.ofInt c)))
  have Hw : Hid (blockS key.data.toList nonce.data.toList (UInt32.ofInt c) = streamOf (stir (initW key.data.toList nonce.data.toList (UInt32.ofInt c)))) := rfl
  have Hst : Hid ((stir (initW key.data.toList nonce.data.toList (UInt32.ofInt c))).length = 16) := by show _ = 16; rw [stir_len, hl0]
  generalize initW key.data.toList nonce.data.toList (UInt32.ofInt c) = ws at *
  have Hl0 := Lib.hid hl0
  have Hsz := Lib.hid hsz
  have Hone := Lib.hid hone
  have Hsz2 := Lib.hid hsz2
  have Hone2 := Lib.hid hone2
  clear hl0 hsz hone hsz2 hone2
  go_wp2_with (refine wpList_store_row rfl 39 (.tmp 7) (.tmp 18) rfl w1.heap.size _ rfl rfl 39 _ (heap_alloc_new _ _) Hsz.out ?hz Hone.out ?_)
  case hz => simp [Hl0.out]
  refine (stirred_any w1.heap.size ws _ Hl0.out (Row.setRow_ (heap_alloc_new _ _) _)).mono ?_
  rintro e w2 ⟨rfl, g2⟩
  have b2 : w.grownBy w2 none := gb_none (gb_new (gb_alloc g1 _) (gb_setRow1 _ _ _) g1.size) g2
  clear g1 g2
  go_wp2_with (refine wpList_store_row rfl 39 (.tmp 8) (.tmp 19) rfl w2.heap.size _ rfl rfl 39 _ (heap_alloc_new _ _) Hsz2.out ?hz Hone2.out ?_)
  case hz => simp [Hst.out]
  refine (into_any w2.heap.size (w2.heap.size + 1) 0 64 64 (stir ws) zeros64 (zeros64.map w8).toArray 42 (by decide) _ Hst.out zeros64_len (by decide) (by decide) ((Row.setRow_ (heap_alloc_new _ _) _).alloc _) (row_new_at _ _ _ _ (by simp)) (fun i hi => zeros_get i hi)).mono ?_
  rintro e w3 ⟨rfl, r3, g3⟩
  have hconv : (convert 25 9 (.slice (some ⟨w2.heap.size + 1, 0, none⟩) 64 64)).run Try.prog w3 = .ok (.string ⟨(streamOf (stir ws)).toArray⟩) w3 := by
    have h := run_convert_bytes_back (P := Try.prog) w3 25 9 5 ⟨w2.heap.size + 1, 0, none⟩ 64 (streamOf (stir ws)) Try.underlying25 Try.underlying5 Try.underlying9 (stream_cells _ (by decide) r3)
    rw [streamOf_len] at h; exact h
  have b3 : w.grownBy w3 none := gb_new (gb_alloc (gb_new (gb_alloc b2 _) (gb_setRow1 _ _ _) b2.size) _) g3 (by have := b2.size; omega)
  clear b2 r3 g3
  go_wp2_with fail
  go_ret
  rw [Hb.out, Hw.out]
  exact ⟨rfl, b3⟩

/-- Block: whatever it is given. -/
theorem block_any (key nonce : ByteArray) (c : Int) (w : World) :
    Calls Try.prog 10 #[.string key, .string nonce, .int .i64 c] w fun e w' => e = .returned (.string (blockA key nonce c)) ∧ w.grownBy w' none := by
  cases hf : fitsB key.size nonce.size c 1 with
  | false => exact block_no key nonce c w hf
  | true =>
    have h := hf
    simp only [fitsB, decide_eq_true_eq] at h
    exact block_yes key nonce c w h.1 h.2.1 hf
end Go.Proofs.Ytkeincmmcdcggaa
