/- chacha.Xor. -/
import Derived.Test.YtkeincmmcdcggaaBlock
import Derived.Test.YtkeincmmcdcggaaTurn
import Derived.Laws.CopyOwn
import Derived.Deep.OwnRows
namespace Go.Proofs.Ytkeincmmcdcggaa
open Go.RowKit Wd Mm

/-- The slice at A, of length n, holds the bytes bs. -/
def Holds (w : World) (A : Option Addr) (n : Nat) (bs : List UInt8) : Prop :=
  bs.length = n ∧ (0 < n → ∃ g o, A = some ⟨g, o, none⟩ ∧ g < w.heap.size ∧ ∀ i, i < n → w.cell? ⟨g, o + i, none⟩ = some (w8 (bs.getD i 0)))
theorem Holds.keep {w w' : World} {A : Option Addr} {n : Nat} {bs : List UInt8} (h : Holds w A n bs) (hg : w.grownBy w' none) : Holds w' A n bs := by
  refine ⟨h.1, fun hn => ?_⟩
  obtain ⟨g, o, e, hl, hc⟩ := h.2 hn
  exact ⟨g, o, e, Nat.lt_of_lt_of_le hl hg.size, fun i hi => by
    have := hg.block g hl (by simp)
    rw [World.cell?_of_block (w := w) (a := ⟨g, o + i, none⟩) this]
    exact hc i hi⟩
/-- The slice v is new memory that holds the bytes l; nil where there are none. -/
def Told (B : Nat) (w : World) (v : Value) (l : List UInt8) : Prop :=
  (l = [] ∧ v = .slice none 0 0) ∨ (l ≠ [] ∧ ∃ g, v = .slice (some ⟨g, 0, none⟩) l.length l.length ∧ B ≤ g ∧ Row w g 5 (l.map w8).toArray)
/-- The answer of Xor. -/
def xorA (key nonce : ByteArray) (c : Int) (bs : List UInt8) : List UInt8 :=
  if bs.length = 0 then [] else if fitsB key.size nonce.size c (1 + ((bs.length : Int) - 1) / 64) = true then xorS key.data.toList nonce.data.toList c bs else []
def XorPost (w : World) (l : List UInt8) (e : Ending) (w' : World) : Prop := ∃ v, e = .returned v ∧ w.grownBy w' none ∧ Told w.heap.size w' v l

set_option maxHeartbeats 1000000 in
theorem xor_empty (key nonce : ByteArray) (c : Int) (A : Option Addr) (cp : Nat) (w : World) :
    Calls Try.prog 13 #[.string key, .string nonce, .int .i64 c, .slice A 0 cp] w (XorPost w []) := by
  go_enter Try.func13, Try.ntmps13
  go_wp2
  go_ret
  exact ⟨_, rfl, gb_refl _ _, .inl ⟨rfl, rfl⟩⟩

set_option maxHeartbeats 1000000 in
theorem xor_unfit (key nonce : ByteArray) (c : Int) (A : Option Addr) (n cp : Nat) (w : World) (h0 : 0 < n) (hn : n ≤ 9223372036854775807) (hf : fitsB key.size nonce.size c (1 + ((n : Int) - 1) / 64) = false) :
    Calls Try.prog 13 #[.string key, .string nonce, .int .i64 c, .slice A n cp] w (XorPost w []) := by
  have h1 : ((n : Int) == 0) = false := by rw [beq_eq_false_iff_ne]; omega
  have Hf := Lib.hid hf
  clear hf
  go_enter Try.func13, Try.ntmps13
  go_wp2_with fail
  refine (blocks_any n _ h0 hn).mono ?_
  rintro e w' ⟨rfl, rfl⟩
  go_wp2_with fail
  refine (fits_any _ _ _ _ _ (by omega) (by omega)).mono ?_
  rintro e w' ⟨rfl, rfl⟩
  rw [Hf.out]
  go_wp2_with fail
  go_ret
  exact ⟨_, rfl, gb_refl _ _, .inl ⟨rfl, rfl⟩⟩

theorem byte_info : (Try.prog.info? 5).map (fun i => (i.zero, i.size, i.bytes)) = some (some (.int .u8 0), 1, 1) := by kernel_rfl
theorem byte_size : (Try.prog.info? 5).map (·.size) = some 1 := by kernel_rfl

/-- A slice's length. -/
def sliceLen : Value → Nat | .slice _ n _ => n | _ => 0

set_option maxHeartbeats 4000000 in
set_option maxRecDepth 100000 in
theorem xor_fit (key nonce : ByteArray) (c : Int) (A : Option Addr) (n cp : Nat) (bs : List UInt8) (w : World) (h0 : 0 < n) (hk : key.size = 32) (hno : nonce.size = 12) (hc0 : 0 ≤ c) (hc1 : c ≤ 4294967295 - ((1 + ((n : Int) - 1) / 64) - 1)) (hb : Holds w A n bs) :
    Calls Try.prog 13 #[.string key, .string nonce, .int .i64 c, .slice A n cp] w (XorPost w (xorS key.data.toList nonce.data.toList c bs)) := by
  have hn : n ≤ 274877906944 := by omega
  have Hf := Lib.hid (fitsB_yes hk hno hc0 hc1)
  have Hk := Lib.hid hk
  have Hno := Lib.hid hno
  have h1 : ((n : Int) == 0) = false := by rw [beq_eq_false_iff_ne]; omega
  have hmk := fun W => run_make_row' (P := Try.prog) 25 5 (.int .u8 0) 1 Try.underlying25 byte_info rfl .i64 .i64 n (by omega) (by omega) W
  have Hbl := Lib.hid hb.1
  obtain ⟨sg, so, rfl, hsg, hcell⟩ := hb.2 h0
  have Hcell := Lib.hid hcell
  clear hk hno hc0 hc1 hcell hb
  go_enter Try.func13, Try.ntmps13
  go_wp2_with fail
  refine (blocks_any n _ h0 (by omega)).mono ?_
  rintro e w' ⟨rfl, rfl⟩
  go_wp2_with fail
  refine (fits_any _ _ _ _ _ (by omega) (by omega)).mono ?_
  rintro e w' ⟨rfl, rfl⟩
  rw [Hf.out]
  have Hn1 : Hid ((bs.map w8).length = Nat.min n n) := by show _ = _; simp [Hbl.out]
  have Hsrc : Hid (∀ W, w.grownBy W none → ∀ j v, (bs.map w8)[j]? = some v → W.cell? ((⟨sg, so, none⟩ : Addr).add j) = some v) := by
    intro W hW j v hv
    have hj : j < bs.length := by
      rcases Nat.lt_or_ge j bs.length with h | h
      · exact h
      · simp [List.getElem?_eq_none (show (bs.map w8).length ≤ j by simpa using h)] at hv
    have hadd : (⟨sg, so, none⟩ : Addr).add j = ⟨sg, so + j, none⟩ := by unfold Addr.add; split <;> simp_all
    rw [hadd, World.cell?_of_block (w := w) (a := ⟨sg, so + j, none⟩) (hW.block sg hsg (by simp)), Hcell.out j (by rw [← Hbl.out]; exact hj)]
    rw [← hv]; simp [hj]
  have Hfit : Hid (0 + (bs.map w8).length ≤ (madeCells #[Value.int .u8 0] n).size) := by show _ ≤ _; rw [size_madeCells]; simp [Hbl.out]
  have Hone : Hid (∀ v ∈ bs.map w8, v.oneCell' = true) := by
    intro v hv
    simp only [List.mem_map] at hv
    obtain ⟨x, _, rfl⟩ := hv
    rfl
  go_wp2_with (with_reducible refine wpList_copy_own rfl (.tmp 30) (.tmp 31) 25 25 rfl 5 Try.underlying25 byte_size w.heap.size 0 n n ⟨sg, so, none⟩ n cp rfl rfl (madeCells #[.int .u8 0] n) 5 (heap_alloc_new _ _) (bs.map w8) Hn1.out (Hsrc.out _ (gb_alloc (gb_refl _ _) _)) Hfit.out Hone.out ?_)
  refine (start_any _ _ _ _ Hk.out Hno.out).mono ?_
  rintro e w1 ⟨rfl, g1⟩
  have r1 : Row w1 w.heap.size 5 (bs.map w8).toArray := by
    have h := (Row.setRow_ (heap_alloc_new w (.cells (madeCells #[Value.int .u8 0] n) 5)) (List.map w8 bs ++ List.drop bs.length (madeCells #[Value.int .u8 0] n).toList).toArray).kept g1 (by simp)
    rw [List.drop_eq_nil_of_le (by rw [Array.length_toList, size_madeCells, Hbl.out]; exact Nat.le_refl _), List.append_nil] at h
    exact h
  have b1 : w.grownBy w1 none := gb_none (gb_new (gb_alloc (gb_refl _ _) _) (gb_setRow1 _ _ _) (Nat.le_refl _)) g1
  have hlt1 := r1.lt
  clear g1
  have hsz := init_size key.data.toList nonce.data.toList (UInt32.ofInt c)
  have hone := words_one (initW key.data.toList nonce.data.toList (UInt32.ofInt c))
  rw [← ctr_zero] at hsz hone
  rw [← ctr_zero]
  change (Try.prog.info? 39).map (·.size) = some ((wsAt key.data.toList nonce.data.toList c 0).map w32).toArray.size at hsz
  change (((wsAt key.data.toList nonce.data.toList c 0).map w32).toArray).all (·.oneCell') = true at hone
  rw [show initW key.data.toList nonce.data.toList (ctr c 0) = wsAt key.data.toList nonce.data.toList c 0 from rfl]
  have Hsz := Lib.hid hsz
  have Hone1 := Lib.hid hone
  clear hsz hone hmk
  go_wp2_with (refine wpList_store_row rfl 39 (.tmp 10) (.tmp 36) rfl w1.heap.size _ rfl rfl 39 _ (heap_alloc_new _ _) Hsz.out ?hz Hone1.out ?_)
  case hz => simp [wsAt_len]
  go_loopw [11] (fun v wr => ∃ j a o : Nat, a ≤ n ∧ (a < n → a = 64 * j ∧ o = a) ∧ v = .slice (some ⟨w.heap.size, o, none⟩) (n - a) (n - a) ∧ Row wr w.heap.size 5 (put (bs.map w8).toArray 0 (xF key.data.toList nonce.data.toList c bs) a) ∧
      Row wr w1.heap.size 39 ((wsAt key.data.toList nonce.data.toList c j).map w32).toArray ∧ w.grownBy wr none) (fun v _ => sliceLen v)
  case atStart => exact ⟨0, 0, 0, Nat.zero_le _, fun _ => ⟨rfl, rfl⟩, rfl, (r1.alloc _).setRow_far (by omega) _, Row.setRow_ (heap_alloc_new _ _) _, gb_new (gb_alloc b1 _) (gb_setRow1 _ _ _) b1.size⟩
  case round =>
    clear r1 b1
    obtain ⟨j, a, o, ha, hao, rfl, hr, hr2, hg⟩ := hrel
    by_cases hlt : a < n
    · obtain ⟨Ha, rfl⟩ := hao hlt
      have Haj := Lib.hid Ha
      clear Ha hao
      by_cases h64 : 64 ≤ n - o
      · skip
        go_wp2_with fail
        refine (stirred_any w1.heap.size _ wr (wsAt_len _ _ _ _) hr2).mono ?_
        rintro e w2 ⟨rfl, g2⟩
        have hrA := hr.kept g2 (by simp)
        have hr2A := hr2.kept g2 (by simp)
        have hgA := gb_none hg g2
        have Hsz2 : Hid ((Try.prog.info? 39).map (·.size) = some ((stir (wsAt key.data.toList nonce.data.toList c j)).map w32).toArray.size) := by show _ = _; rw [size39]; simp [stir_len, wsAt_len]
        have Hst : Hid ((stir (wsAt key.data.toList nonce.data.toList c j)).length = 16) := by show _ = 16; rw [stir_len, wsAt_len]
        clear hr hr2 hg g2
        go_wp2_with (refine wpList_store_row rfl 39 (.tmp 13) (.tmp 46) rfl w2.heap.size _ rfl rfl 39 _ (heap_alloc_new _ _) Hsz2.out ?hz (words_one _) ?_)
        case hz => simp [Hst.out]
        refine (into_any w2.heap.size w.heap.size o 64 (n - o) (stir (wsAt key.data.toList nonce.data.toList c j)) (partB bs o 64) _ 5 (by decide) _ Hst.out (partB_len _ _ _) (by omega) (by omega)
          (Row.setRow_ (heap_alloc_new _ _) _) ((hrA.alloc _).setRow_far (Nat.ne_of_lt hrA.lt) _) (fun i hi => cells_part _ _ _ _ _ _ _ hi (by rw [Hbl.out]; omega))).mono ?_
        rintro e w3 ⟨rfl, r3, g3⟩
        have e3 : put (put (bs.map w8).toArray 0 (xF key.data.toList nonce.data.toList c bs) o) o (turned (partB bs o 64) (stir (wsAt key.data.toList nonce.data.toList c j))) 64 = put (bs.map w8).toArray 0 (xF key.data.toList nonce.data.toList c bs) (o + 64) := by
          refine put_more _ _ _ _ _ (fun i hi => ?_)
          rw [Haj.out]
          exact turned_part _ _ _ _ _ _ _ (by have := Haj.out; omega) (by have := Haj.out; omega)
        rw [e3] at r3
        have r4 := ((hr2A.alloc _).setRow_far (g' := w2.heap.size) (Nat.ne_of_lt hr2A.lt) _).kept g3 (by simp; omega)
        have g4 : w.grownBy w3 none := gb_new (gb_new (gb_alloc hgA _) (gb_setRow1 _ _ _) hgA.size) g3 (Nat.le_refl _)
        have c12 := r4.at_ (wsAt_12 key.data.toList nonce.data.toList c j)
        have f12 := r4.free 12
        have hnx := ctr_succ c j
        clear e3 hrA hr2A hgA g3
        go_wp2_with fail
        refine ⟨⟨j + 1, o + 64, if n - o = 64 then o else o + 64, by omega, fun h => ⟨by have := Haj.out; omega, by rw [if_neg (by omega)]⟩, ?_, r3.far (Nat.ne_of_lt hlt1) _, ?_, gb_new g4 (gb_set1 _ _ _ _) (Nat.le_of_lt hlt1)⟩, ?_⟩
        · rw [show n - (o + 64) = n - o - 64 by omega]
          by_cases hq : n - o = 64
          · rw [if_pos hq, if_pos hq]
          · rw [if_neg hq, if_neg hq]
        · have h := r4.set_ 12 (.int .u32 ((ctr c (j + 1)).toNat : Int))
          rw [wsAt_next] at h; exact h
        · show n - o - 64 < n - o; omega
      · skip
        go_wp2_with fail
        refine (stirred_any w1.heap.size _ wr (wsAt_len _ _ _ _) hr2).mono ?_
        rintro e w2 ⟨rfl, g2⟩
        have hrA := hr.kept g2 (by simp)
        have hr2A := hr2.kept g2 (by simp)
        have hgA := gb_none hg g2
        have Hsz2 : Hid ((Try.prog.info? 39).map (·.size) = some ((stir (wsAt key.data.toList nonce.data.toList c j)).map w32).toArray.size) := by show _ = _; rw [size39]; simp [stir_len, wsAt_len]
        have Hst : Hid ((stir (wsAt key.data.toList nonce.data.toList c j)).length = 16) := by show _ = 16; rw [stir_len, wsAt_len]
        clear hr hr2 hg g2
        go_wp2_with (refine wpList_store_row rfl 39 (.tmp 13) (.tmp 46) rfl w2.heap.size _ rfl rfl 39 _ (heap_alloc_new _ _) Hsz2.out ?hz (words_one _) ?_)
        case hz => simp [Hst.out]
        refine (into_any w2.heap.size w.heap.size o (n - o) (n - o) (stir (wsAt key.data.toList nonce.data.toList c j)) (partB bs o (n - o)) _ 5 (by decide) _ Hst.out (partB_len _ _ _) (by omega) (by omega)
          (Row.setRow_ (heap_alloc_new _ _) _) ((hrA.alloc _).setRow_far (Nat.ne_of_lt hrA.lt) _) (fun i hi => cells_part _ _ _ _ _ _ _ hi (by rw [Hbl.out]; omega))).mono ?_
        rintro e w3 ⟨rfl, r3, g3⟩
        have e3 : put (put (bs.map w8).toArray 0 (xF key.data.toList nonce.data.toList c bs) o) o (turned (partB bs o (n - o)) (stir (wsAt key.data.toList nonce.data.toList c j))) (n - o) = put (bs.map w8).toArray 0 (xF key.data.toList nonce.data.toList c bs) (o + (n - o)) := by
          refine put_more _ _ _ _ _ (fun i hi => ?_)
          rw [Haj.out]
          exact turned_part _ _ _ _ _ _ _ (by have := Haj.out; omega) (by have := Haj.out; omega)
        rw [e3] at r3
        have r4 := ((hr2A.alloc _).setRow_far (g' := w2.heap.size) (Nat.ne_of_lt hr2A.lt) _).kept g3 (by simp; omega)
        have g4 : w.grownBy w3 none := gb_new (gb_new (gb_alloc hgA _) (gb_setRow1 _ _ _) hgA.size) g3 (Nat.le_refl _)
        have c12 := r4.at_ (wsAt_12 key.data.toList nonce.data.toList c j)
        have f12 := r4.free 12
        have hnx := ctr_succ c j
        clear e3 hrA hr2A hgA g3
        go_wp2_with fail
        refine ⟨⟨j + 1, n, o, Nat.le_refl _, fun h => absurd h (Nat.lt_irrefl _), by rw [Nat.sub_self], ?_, ?_, gb_new g4 (gb_set1 _ _ _ _) (Nat.le_of_lt hlt1)⟩, ?_⟩
        · rw [show o + (n - o) = n by omega] at r3
          exact r3.far (Nat.ne_of_lt hlt1) _
        · have h := r4.set_ 12 (.int .u32 ((ctr c (j + 1)).toNat : Int))
          rw [wsAt_next] at h; exact h
        · show 0 < n - o; omega
    · have Han : Hid (a = n) := by show a = n; omega
      have hx : n - a = 0 := by omega
      have hx2 : decide (0 < ((n - a : Nat) : Int)) = false := by simp; omega
      clear hao
      go_wp2
      go_ret
      refine ⟨_, rfl, hg, .inr ⟨?_, w.heap.size, ?_, Nat.le_refl _, ?_⟩⟩
      · intro e
        have := xorS_len key.data.toList nonce.data.toList c bs
        rw [e, Hbl.out] at this
        simp at this; omega
      · rw [xorS_len, Hbl.out]; rfl
      · rw [← put_xorS, Hbl.out, ← Han.out]; exact hr

/-- Xor: whatever it is given. -/
theorem xor_any (key nonce : ByteArray) (c : Int) (A : Option Addr) (n cp : Nat) (bs : List UInt8) (w : World) (hn : n ≤ 9223372036854775807) (hb : Holds w A n bs) :
    Calls Try.prog 13 #[.string key, .string nonce, .int .i64 c, .slice A n cp] w (XorPost w (xorA key nonce c bs)) := by
  by_cases h0 : n = 0
  · subst h0
    have e : xorA key nonce c bs = [] := by simp [xorA, hb.1]
    rw [e]; exact xor_empty key nonce c A cp w
  · cases hf : fitsB key.size nonce.size c (1 + ((n : Int) - 1) / 64) with
    | false =>
      have e : xorA key nonce c bs = [] := by unfold xorA; rw [hb.1, if_neg h0, if_neg (by rw [hf]; decide)]
      rw [e]; exact xor_unfit key nonce c A n cp w (by omega) hn hf
    | true =>
      have h := hf
      simp only [fitsB, decide_eq_true_eq] at h
      have e : xorA key nonce c bs = xorS key.data.toList nonce.data.toList c bs := by unfold xorA; rw [hb.1, if_neg h0, if_pos hf]
      rw [e]; exact xor_fit key nonce c A n cp bs w (by omega) h.1 h.2.1 h.2.2.1 h.2.2.2 hb
end Go.Proofs.Ytkeincmmcdcggaa
