/- The document's Xor. -/
import Derived.Test.YtkeincmmcdcggaaRefBlock
import Derived.Test.YtkeincmmcdcggaaXor
namespace Go.Proofs.Ytkeincmmcdcggaa
open Go.RowKit Wd Mm

/-- A block whose cells are cs, none of them frozen (what is frozen lies behind them). -/
def RowF (w : World) (g : Nat) (t : TypeId) (cs : Array Value) : Prop := ∃ f, cs.size ≤ f ∧ w.heap[g]? = some (.cells cs t (f, f + 1))
section
variable {w w' : World} {g : Nat} {t : TypeId} {cs : Array Value}
theorem RowF.at_ (h : RowF w g t cs) {i : Nat} {v : Value} (hv : cs[i]? = some v) : w.cell? ⟨g, i, none⟩ = some v := by
  obtain ⟨f, _, h⟩ := h
  rw [cell_of_row w g i cs t _ h, hv]
theorem RowF.free (h : RowF w g t cs) {i : Nat} (hi : i < cs.size) : w.frozen? ⟨g, i, none⟩ = false := by
  obtain ⟨f, hf, h⟩ := h
  simp [World.frozen?, h]; omega
theorem RowF.kept {r : Option Nat} (h : RowF w g t cs) (hg : w.grownBy w' r) (hn : some g ≠ r) : RowF w' g t cs := by
  obtain ⟨f, hf, h⟩ := h
  exact ⟨f, hf, (hg.block g (Array.getElem?_eq_some_iff.1 h).1 hn).trans h⟩
theorem RowF.set_ (h : RowF w g t cs) (i : Nat) (v : Value) : RowF (w.setCell ⟨g, i, none⟩ v) g t (cs.setIfInBounds i v) := by
  obtain ⟨f, hf, h⟩ := h
  refine ⟨f, by simpa using hf, ?_⟩
  simp [World.setCell, Array.getElem?_modify, h]
theorem RowF.drew (h : RowF w g t cs) : RowF w.drew g t cs := h
end
theorem len_data (s : ByteArray) : s.data.toList.length = s.size := by rw [Array.length_toList]; rfl
/-- The string's bytes at a row's head. -/
theorem bytesRow_get (s : ByteArray) (cap i : Nat) (h : i < s.size) : (bytesRow s cap)[i]? = some (w8 (s.data.toList.getD i 0)) := by
  have h' : i < s.data.toList.length := by rw [len_data]; exact h
  unfold bytesRow
  rw [Array.getElem?_append_left (by rw [Array.size_map]; exact h), Array.getElem?_map, ← Array.getElem?_toList, List.getElem?_eq_getElem h', List.getD_eq_getElem?_getD, List.getElem?_eq_getElem h']
  rfl
theorem bytesRow_size (s : ByteArray) (cap : Nat) : s.size ≤ (bytesRow s cap).size := by
  unfold bytesRow; rw [Array.size_append, Array.size_map]; exact Nat.le_add_right _ _
theorem xorA_empty (key nonce : ByteArray) (c : Int) (b : ByteArray) (h : b.size = 0) : xorA key nonce c b.data.toList = [] := by
  unfold xorA; rw [if_pos (by rw [len_data]; exact h)]
theorem xorA_unfit (key nonce : ByteArray) (c : Int) (b : ByteArray) (h : ¬ (key.size = 32 ∧ nonce.size = 12 ∧ 0 ≤ c ∧ c ≤ 4294967295 - ((1 + ((b.size : Int) - 1) / 64) - 1))) : xorA key nonce c b.data.toList = [] := by
  unfold xorA
  rw [len_data]
  by_cases h0 : b.size = 0
  · rw [if_pos h0]
  · rw [if_neg h0, if_neg]
    simp only [fitsB, decide_eq_true_eq]; exact h
theorem xorA_fit (key nonce : ByteArray) (c : Int) (b : ByteArray) (h0 : b.size ≠ 0) (h : key.size = 32 ∧ nonce.size = 12 ∧ 0 ≤ c ∧ c ≤ 4294967295 - ((1 + ((b.size : Int) - 1) / 64) - 1)) : xorA key nonce c b.data.toList = xorS key.data.toList nonce.data.toList c b.data.toList := by
  unfold xorA
  rw [len_data, if_neg h0, if_pos]
  simp only [fitsB, decide_eq_true_eq]; exact h
theorem blockA_fit (key nonce : ByteArray) (c : Int) (h1 : key.size = 32) (h2 : nonce.size = 12) (h3 : 0 ≤ c) (h4 : c ≤ 4294967295) : blockA key nonce c = ⟨(streamOf (stir (initW key.data.toList nonce.data.toList (UInt32.ofInt c)))).toArray⟩ := by
  unfold blockA
  rw [if_pos (fitsB_yes h1 h2 h3 (by omega))]; rfl
theorem streamOf_getD (l : List UInt32) (q : Nat) (h : q < 64) : (streamOf l).getD q 0 = streamB l q := by
  rw [List.getD_eq_getElem?_getD, List.getElem?_eq_getElem (by rw [streamOf_len]; exact h), Option.getD_some, streamOf_get]
theorem xF_at (key nonce : List UInt8) (c : Int) (bs : List UInt8) (j q : Nat) (h : q < 64) : xF key nonce c bs (64 * j + q) = w8 (xb (bs.getD (64 * j + q) 0) (streamB (stir (wsAt key nonce c j)) q)) := by
  unfold xF keyB
  rw [show (64 * j + q) / 64 = j by omega, show (64 * j + q) % 64 = q by omega]
theorem put_xF (C : Array Value) (key nonce : List UInt8) (c : Int) (bs : List UInt8) (j q a i : Nat) (p : UInt8) (ha : a = 64 * j) (hi : i = a + q) (hq : q < 64) (hp : bs.getD i 0 = p) :
    put C 0 (xF key nonce c bs) (i + 1) = (put C 0 (xF key nonce c bs) i).setIfInBounds i (w8 (xb p (streamB (stir (wsAt key nonce c j)) q))) := by
  subst ha; subst hi; subst hp
  rw [put_1, Nat.zero_add, xF_at _ _ _ _ _ _ hq]
theorem cells_xorS {w : World} {g : Nat} {t : TypeId} (key nonce : List UInt8) (c : Int) (bs : List UInt8) (C : Array Value) (hC : bs.length ≤ C.size) (h : RowF w g t (put C 0 (xF key nonce c bs) bs.length)) :
    ∀ j (hj : j < (xorS key nonce c bs).length), w.cell? ((⟨g, 0, none⟩ : Addr).add j) = some (.int .u8 ((xorS key nonce c bs)[j].toNat : Int)) := by
  intro j hj
  have hj' : j < bs.length := by rw [xorS_len] at hj; exact hj
  have hadd : (⟨g, 0, none⟩ : Addr).add j = ⟨g, j, none⟩ := by unfold Addr.add; split <;> simp_all
  rw [hadd]
  refine h.at_ ?_
  rw [put_get, if_pos (by omega), Nat.sub_zero]
  simp [xF, xorS, w8]
theorem stream_some (l : List UInt32) : (⟨(streamOf l).toArray⟩ : ByteArray).toList.isEmpty = false := by
  rw [ByteArray.toList_mk]
  have := streamOf_len l
  cases h : streamOf l with
  | nil => rw [h] at this; simp at this
  | cons => rfl

set_option maxHeartbeats 1000000 in
theorem refXor_empty (key nonce b : ByteArray) (c : Int) (w : World) (hb : b.size = 0) :
    Calls Try.prog 14 #[.string key, .string nonce, .int .i64 c, .string b] w fun e w' => e = .returned (.string ⟨(xorA key nonce c b.data.toList).toArray⟩) ∧ w.grownBy w' none := by
  have Hx := Lib.hid (xorA_empty key nonce c b hb)
  have t1 : (((b.size : Nat) : Int) == 0) = true := by rw [hb]; rfl
  clear hb
  go_enter Try.func14, Try.ntmps14
  go_wp2
  go_ret
  rw [Hx.out]
  exact ⟨rfl, gb_refl _ _⟩

set_option maxHeartbeats 1000000 in
theorem refXor_noBlock (key nonce b : ByteArray) (c : Int) (w : World) (hb : b.size ≠ 0) (hf : fitsB key.size nonce.size c 1 = false) :
    Calls Try.prog 14 #[.string key, .string nonce, .int .i64 c, .string b] w fun e w' => e = .returned (.string ⟨(xorA key nonce c b.data.toList).toArray⟩) ∧ w.grownBy w' none := by
  have hx : xorA key nonce c b.data.toList = [] := by
    refine xorA_unfit key nonce c b (fun h => ?_)
    simp only [fitsB, decide_eq_false_iff_not] at hf
    exact hf ⟨h.1, h.2.1, h.2.2.1, by have := h.2.2.2; omega⟩
  have hk : blockA key nonce c = ⟨#[]⟩ := by simp [blockA, hf]
  have Hx := Lib.hid hx
  have Hk := Lib.hid hk
  have t1 : (((b.size : Nat) : Int) == 0) = false := by rw [beq_eq_false_iff_ne]; omega
  clear hx hk hf hb
  go_enter Try.func14, Try.ntmps14
  go_wp2_with fail
  refine (refBlock_any _ _ _ _).mono ?_
  rintro e w1 ⟨rfl, g1⟩
  rw [Hk.out]
  go_wp2_with fail
  go_ret
  rw [Hx.out]
  exact ⟨rfl, g1⟩

set_option maxHeartbeats 1000000 in
theorem refXor_far (key nonce b : ByteArray) (c : Int) (w : World) (h0 : 0 < b.size) (hn : b.size ≤ 9223372036854775807) (hk : key.size = 32) (hno : nonce.size = 12) (hc0 : 0 ≤ c) (hc1 : c ≤ 4294967295) (hfar : 4294967296 ≤ c + ((b.size : Int) - 1) / 64) :
    Calls Try.prog 14 #[.string key, .string nonce, .int .i64 c, .string b] w fun e w' => e = .returned (.string ⟨(xorA key nonce c b.data.toList).toArray⟩) ∧ w.grownBy w' none := by
  have Hx := Lib.hid (xorA_unfit key nonce c b (fun h => by have := h.2.2.2; omega))
  obtain ⟨K, HK⟩ : ∃ K, Hid (blockA key nonce c = K) := ⟨_, rfl⟩
  have hK : K.toList.isEmpty = false := by rw [← HK.out, blockA_fit key nonce c hk hno hc0 hc1]; exact stream_some _
  have t1 : (((b.size : Nat) : Int) == 0) = false := by rw [beq_eq_false_iff_ne]; omega
  have t2 : decide (4294967296 ≤ c + ((b.size : Int) - 1) / 64) = true := by simpa using hfar
  clear hfar hk hno
  go_enter Try.func14, Try.ntmps14
  go_wp2_with fail
  refine (refBlock_any _ _ _ _).mono ?_
  rintro e w1 ⟨rfl, g1⟩
  rw [HK.out]
  go_wp2_with fail
  go_ret
  rw [Hx.out]
  exact ⟨rfl, g1⟩

set_option maxHeartbeats 4000000 in
set_option maxRecDepth 100000 in
theorem refXor_fit (key nonce b : ByteArray) (c : Int) (w : World) (hb : b.size ≠ 0) (hk : key.size = 32) (hno : nonce.size = 12) (hc0 : 0 ≤ c) (hc1 : c ≤ 4294967295 - ((1 + ((b.size : Int) - 1) / 64) - 1)) :
    Calls Try.prog 14 #[.string key, .string nonce, .int .i64 c, .string b] w fun e w' => e = .returned (.string ⟨(xorA key nonce c b.data.toList).toArray⟩) ∧ w.grownBy w' none := by
  have Hx := Lib.hid (xorA_fit key nonce c b hb ⟨hk, hno, hc0, hc1⟩)
  have hn : b.size ≤ 274877906944 := by omega
  have hc2 : c + ((b.size : Int) - 1) / 64 ≤ 4294967295 := by omega
  obtain ⟨K, HK⟩ : ∃ K, Hid (blockA key nonce c = K) := ⟨_, rfl⟩
  have hK : K.toList.isEmpty = false := by rw [← HK.out, blockA_fit key nonce c hk hno hc0 (by omega)]; exact stream_some _
  have t1 : (((b.size : Nat) : Int) == 0) = false := by rw [beq_eq_false_iff_ne]; omega
  have t2 : decide (4294967296 ≤ c + ((b.size : Int) - 1) / 64) = false := by simp; omega
  have Hk := Lib.hid hk
  have Hno := Lib.hid hno
  have h0 : 0 < b.size := by omega
  clear hb hk hno hc1
  have hcv := fun W => run_bytes_of_string (P := Try.prog) W 9 25 5 b Try.underlying9 Try.underlying25 Try.underlying5
  go_enter Try.func14, Try.ntmps14
  go_wp2_with fail
  refine (refBlock_any _ _ _ _).mono ?_
  rintro e w1 ⟨rfl, g1⟩
  rw [HK.out]
  go_wp2_with fail
  have hC : ∀ i, i < b.size → (bytesRow b (grownCap w1 b.size 0 5))[i]? = some (w8 (b.data.toList.getD i 0)) := fun i hi => bytesRow_get b _ i hi
  have hCs := bytesRow_size b (grownCap w1 b.size 0 5)
  have r0 : RowF (w1.alloc (.cells (bytesRow b (grownCap w1 b.size 0 5)) 5 ((bytesRow b (grownCap w1 b.size 0 5)).size, (bytesRow b (grownCap w1 b.size 0 5)).size + 1))).drew w1.heap.size 5 (bytesRow b (grownCap w1 b.size 0 5)) :=
    ⟨_, Nat.le_refl _, heap_alloc_new w1 _⟩
  generalize bytesRow b (grownCap w1 b.size 0 5) = C at *
  have HC := Lib.hid hC
  have g2 := g1.size
  clear hC
  go_loopw [10, 11, 12] (fun v _ _ wr => ∃ j a : Nat, Hid (a = 64 * j) ∧ a ≤ b.size + 64 ∧ v = .int .i64 a ∧ RowF wr w1.heap.size 5 (put C 0 (xF key.data.toList nonce.data.toList c b.data.toList) (min a b.size)) ∧ w.grownBy wr none) (fun v _ _ _ => b.size - (intOf v).toNat)
  case atStart => exact ⟨0, 0, rfl, Nat.zero_le _, rfl, by rw [Nat.zero_min]; exact r0, gb_drew (gb_alloc g1 _)⟩
  case round =>
    clear r0 hcv
    obtain ⟨j, a, Ha, hab, rfl, hr, hg⟩ := hrel
    by_cases hlt : a < b.size
    · obtain ⟨Kj, HKj⟩ : ∃ K, Hid (blockA key nonce (c + (j : Int)) = K) := ⟨_, rfl⟩
      have haj : (a : Int) / 64 = (j : Int) := by have := Ha.out; omega
      have Hcj : Hid (c + (j : Int) ≤ 4294967295) := by show _ ≤ _; have := Ha.out; omega
      have Hkd : Hid (Kj.data.toList = streamOf (stir (wsAt key.data.toList nonce.data.toList c j))) := by
        show _ = _
        rw [← HKj.out, blockA_fit key nonce _ Hk.out Hno.out (by omega) Hcj.out]; rfl
      have hks : 64 ≤ Kj.size := by rw [← len_data, Hkd.out, streamOf_len]; exact Nat.le_refl _
      rw [Nat.min_eq_left (by omega)] at hr
      go_wp2_with fail
      refine (refBlock_any _ _ _ _).mono ?_
      rintro e w2 ⟨rfl, g3⟩
      rw [HKj.out]
      have hr' := hr.kept g3 (by simp)
      have hg' := gb_none hg g3
      clear hr hg g3
      go_wp2_with fail
      go_loopw [12] (fun v wr => ∃ q i : Nat, Hid (i = a + q) ∧ q ≤ 64 ∧ i ≤ b.size ∧ v = .int .i64 i ∧ RowF wr w1.heap.size 5 (put C 0 (xF key.data.toList nonce.data.toList c b.data.toList) i) ∧ w.grownBy wr none) (fun v _ => b.size - (intOf v).toNat)
      case atStart => exact ⟨0, a, rfl, Nat.zero_le _, by omega, rfl, hr', hg'⟩
      case round =>
        clear hr' hg'
        obtain ⟨q, i, Hi, hq, hib, rfl, hr, hg⟩ := hrel
        by_cases hin : i < b.size
        · by_cases hq64 : q < 64
          · have d1 : decide ((i : Int) < (b.size : Int)) = true := by simp; omega
            have d2 : decide ((i : Int) < (a : Int) + 64) = true := by have := Hi.out; simp; omega
            have hiq : (i : Int) - (a : Int) = (q : Int) := by have := Hi.out; omega
            have hqk : (q : Int) < (Kj.size : Int) := by omega
            have hi1 : (i : Int) < (b.size : Int) := by omega
            have hc := hr.at_ (i := i) (v := .int .u8 ((b.data.toList.getD i 0).toNat : Int)) (by rw [put_get, if_neg (by omega)]; exact HC.out i hin)
            have hf := hr.free (i := i) (by rw [put_size]; omega)
            generalize hpb : b.data.toList.getD i 0 = pb at hc
            have Hpb := Lib.hid hpb
            clear hpb
            go_wp2_with fail
            go_region
            go_wp2
            refine ⟨⟨q + 1, i + 1, by show i + 1 = a + (q + 1); have := Hi.out; omega, by omega, by omega, by go_num, ?_, gb_drew (gb_new hg (gb_set1 _ _ _ _) g2)⟩, by simp [intOf]; omega⟩
            have h := (hr.set_ i (w8 (xb pb (streamB (stir (wsAt key.data.toList nonce.data.toList c j)) q)))).drew
            have e := put_xF C key.data.toList nonce.data.toList c b.data.toList j q a i pb Ha.out Hi.out hq64 Hpb.out
            rw [e, xb_walk, get_data Kj q (by omega), Hkd.out, streamOf_getD _ _ hq64]
            exact h
          · have d1 : decide ((i : Int) < (b.size : Int)) = true := by simp; omega
            have d2 : decide ((i : Int) < (a : Int) + 64) = false := by have := Hi.out; simp; omega
            go_wp2
            refine ⟨⟨j + 1, a + 64, by show a + 64 = 64 * (j + 1); have := Ha.out; omega, by omega, by go_num, ?_, hg⟩, by simp [intOf]; omega⟩
            rw [Nat.min_eq_left (by have := Hi.out; omega), show a + 64 = i by have := Hi.out; omega]; exact hr
        · have d1 : decide ((i : Int) < (b.size : Int)) = false := by simp; omega
          go_wp2
          refine ⟨⟨j + 1, a + 64, by show a + 64 = 64 * (j + 1); have := Ha.out; omega, by omega, by go_num, ?_, hg⟩, by simp [intOf]; omega⟩
          rw [Nat.min_eq_right (by have := Hi.out; omega), show b.size = i by omega]; exact hr
    · have d1 : decide ((a : Int) < (b.size : Int)) = false := by simp; omega
      rw [Nat.min_eq_right (by omega), ← len_data] at hr
      have hconv := run_convert_bytes_back (P := Try.prog) wr 25 9 5 ⟨w1.heap.size, 0, none⟩ (grownCap w1 b.size 0 5) (xorS key.data.toList nonce.data.toList c b.data.toList) Try.underlying25 Try.underlying5 Try.underlying9
        (cells_xorS _ _ _ _ _ (by rw [len_data]; exact hCs) hr)
      rw [xorS_len, len_data] at hconv
      clear hr
      go_wp2
      go_ret
      rw [Hx.out]
      exact ⟨rfl, hg⟩

/-- The document's Xor: whatever it is given. -/
theorem refXor_any (key nonce b : ByteArray) (c : Int) (w : World) (hn : b.size ≤ 9223372036854775807) :
    Calls Try.prog 14 #[.string key, .string nonce, .int .i64 c, .string b] w fun e w' => e = .returned (.string ⟨(xorA key nonce c b.data.toList).toArray⟩) ∧ w.grownBy w' none := by
  by_cases h0 : b.size = 0
  · exact refXor_empty key nonce b c w h0
  · cases hf : fitsB key.size nonce.size c 1 with
    | false => exact refXor_noBlock key nonce b c w h0 hf
    | true =>
      have h := hf
      simp only [fitsB, decide_eq_true_eq] at h
      by_cases hfar : 4294967296 ≤ c + ((b.size : Int) - 1) / 64
      · exact refXor_far key nonce b c w (by omega) hn h.1 h.2.1 h.2.2.1 (by omega) hfar
      · exact refXor_fit key nonce b c w h0 h.1 h.2.1 h.2.2.1 (by omega)
end Go.Proofs.Ytkeincmmcdcggaa
