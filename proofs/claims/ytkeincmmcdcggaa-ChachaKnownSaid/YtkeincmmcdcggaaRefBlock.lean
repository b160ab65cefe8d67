/- The document's Block. -/
import Derived.Test.YtkeincmmcdcggaaRef
import Derived.Test.YtkeincmmcdcggaaRound
import Derived.Test.YtkeincmmcdcggaaBlock
namespace Go.Proofs.Ytkeincmmcdcggaa
open Go.RowKit Wd Mm

theorem byte_infoR : (Try.prog.info? 5).map (fun i => (i.zero, i.size, i.bytes)) = some (some (.int .u8 0), 1, 1) := by kernel_rfl
theorem word_info : (Try.prog.info? 35).map (fun i => (i.zero, i.size, i.bytes)) = some (some (.int .u32 0), 1, 4) := by kernel_rfl

set_option maxHeartbeats 1000000 in
theorem refBlock_no (key nonce : ByteArray) (c : Int) (w : World) (hf : fitsB key.size nonce.size c 1 = false) :
    Calls Try.prog 11 #[.string key, .string nonce, .int .i64 c] w fun e w' => e = .returned (.string (blockA key nonce c)) ∧ w.grownBy w' none := by
  have hb : blockA key nonce c = ⟨#[]⟩ := by simp [blockA, hf]
  have Hb := Lib.hid hb
  have hn : ¬ (key.size = 32 ∧ nonce.size = 12 ∧ 0 ≤ c ∧ c ≤ 4294967295) := by
    simp only [fitsB, decide_eq_false_iff_not] at hf; intro h; exact hf ⟨h.1, h.2.1, h.2.2.1, by omega⟩
  clear hf hb
  by_cases h1 : key.size = 32
  · have t1 : (((key.size : Nat) : Int) != 32) = false := by rw [h1]; rfl
    by_cases h2 : nonce.size = 12
    · have t2 : (((nonce.size : Nat) : Int) != 12) = false := by rw [h2]; rfl
      by_cases h3 : c < 0
      · have t3 : decide (c < 0) = true := by simpa using h3
        clear h1 h2 hn
        go_enter Try.func11, Try.ntmps11
        go_wp2
        go_ret
        rw [Hb.out]
        exact ⟨rfl, gb_refl _ _⟩
      · have t3 : decide (c < 0) = false := by simpa using h3
        have h4 : 4294967296 ≤ c := by omega
        have t4 : decide (4294967296 ≤ c) = true := by simpa using h4
        clear h1 h2 hn
        go_enter Try.func11, Try.ntmps11
        go_wp2
        go_ret
        rw [Hb.out]
        exact ⟨rfl, gb_refl _ _⟩
    · have t2 : (((nonce.size : Nat) : Int) != 12) = true := by rw [bne_iff_ne]; omega
      clear h1 h2 hn
      go_enter Try.func11, Try.ntmps11
      go_wp2
      go_ret
      rw [Hb.out]
      exact ⟨rfl, gb_refl _ _⟩
  · have t1 : (((key.size : Nat) : Int) != 32) = true := by rw [bne_iff_ne]; omega
    clear h1 hn
    go_enter Try.func11, Try.ntmps11
    go_wp2
    go_ret
    rw [Hb.out]
    exact ⟨rfl, gb_refl _ _⟩

set_option maxHeartbeats 4000000 in
set_option maxRecDepth 100000 in
theorem refBlock_yes (key nonce : ByteArray) (c : Int) (w : World) (hk : key.size = 32) (hn : nonce.size = 12) (hc0 : 0 ≤ c) (hc1 : c ≤ 4294967295) (hf : fitsB key.size nonce.size c 1 = true) :
    Calls Try.prog 11 #[.string key, .string nonce, .int .i64 c] w fun e w' => e = .returned (.string (blockA key nonce c)) ∧ w.grownBy w' none := by
  have hb : blockA key nonce c = ⟨(blockS key.data.toList nonce.data.toList (UInt32.ofInt c)).toArray⟩ := by simp [blockA, hf]
  have Hb := Lib.hid hb
  have t1 : (((key.size : Nat) : Int) != 32) = false := by rw [hk]; rfl
  have t2 : (((nonce.size : Nat) : Int) != 12) = false := by rw [hn]; rfl
  have t3 : decide (c < 0) = false := by simp; omega
  have t4 : decide (4294967296 ≤ c) = false := by simp; omega
  have Hk := Lib.hid hk
  have Hn := Lib.hid hn
  have hcat : ¬ 9223372036854775807 < 16 + key.size := by omega
  clear hf hb hk hn hc0 hc1
  go_enter Try.func11, Try.ntmps11
  go_wp2
  have Hbg : Hid ((({ data := #[101, 120, 112, 97, 110, 100, 32, 51, 50, 45, 98, 121, 116, 101, 32, 107] } : ByteArray) ++ key).data.toList = opening ++ key.data.toList) := by
    show _ = _
    rw [ByteArray.data_append, Array.toList_append]; rfl
  have hbs : (({ data := #[101, 120, 112, 97, 110, 100, 32, 51, 50, 45, 98, 121, 116, 101, 32, 107] } : ByteArray) ++ key).size ≤ 48 ∧ 48 ≤ (({ data := #[101, 120, 112, 97, 110, 100, 32, 51, 50, 45, 98, 121, 116, 101, 32, 107] } : ByteArray) ++ key).size := by
    rw [ByteArray.size_append, Hk.out]; decide
  generalize ({ data := #[101, 120, 112, 97, 110, 100, 32, 51, 50, 45, 98, 121, 116, 101, 32, 107] } : ByteArray) ++ key = bg at *
  obtain ⟨hbs1, hbs2⟩ := hbs
  go_loopw [9] (fun i wr => ∃ k : Nat, k ≤ 12 ∧ i = .int .i64 k ∧ Row wr w.heap.size 38 (put zeros16 0 (fun i => w32 (leAt bg.data.toList (4 * i))) k) ∧ w.grownBy wr none) (fun i _ => 12 - (intOf i).toNat)
  case atStart => exact ⟨0, Nat.zero_le _, rfl, Row.new _ _ _, gb_alloc (gb_refl _ _) _⟩
  case round =>
    obtain ⟨k, hk, rfl, hr, hg⟩ := hrel
    by_cases hlt : k < 12
    · have hd : decide ((k : Int) < 12) = true := by simp; omega
      have hi : (k : Int) < 16 := by omega
      obtain ⟨m, Hm⟩ : ∃ m : Nat, Hid (m = 4 * k) := ⟨_, rfl⟩
      have hm : 4 * (k : Int) = (m : Int) := by have := Hm.out; omega
      obtain ⟨v0, hv0⟩ : ∃ v, (put zeros16 0 (fun i => w32 (leAt bg.data.toList (4 * i))) k)[k]? = some v := ⟨_, Array.getElem?_eq_getElem (by rw [put_size]; show _ < 16; omega)⟩
      have hc := hr.at_ hv0
      have hf := hr.free k
      clear hv0
      go_wp2_with fail
      refine (low_any bg m _ (by have := Hm.out; omega) (by omega)).mono ?_
      rintro e w' ⟨rfl, rfl⟩
      go_wp2_with fail
      go_roundw
      case rel =>
        refine ⟨k + 1, by omega, by go_num, ?_, gb_new (gb_drew hg) (gb_set1 _ _ _ _) (Nat.le_refl _)⟩
        have h := hr.drew.set_ k (w32 (leAt bg.data.toList m))
        rw [Hm.out] at h
        simp only [put, Nat.zero_add]
        rw [Hm.out]
        exact h
      case measure => simp [intOf]; omega
    · have Hk12 : Hid (k = 12) := by show k = 12; omega
      have hd : decide ((k : Int) < 12) = false := by simp; omega
      have hc := hr.at_ (i := 12) (v := w32 0) (by rw [put_get, if_neg (by omega)]; rfl)
      have hf := hr.free 12
      clear hk hlt
      go_wp2
      rw [ofInt32]
      have r1 : Row (wr.setCell ⟨w.heap.size, 12, none⟩ (.int .u32 ((UInt32.ofInt c).toNat : Int))) w.heap.size 38 ((put zeros16 0 (fun i => w32 (leAt bg.data.toList (4 * i))) 12).setIfInBounds 12 (w32 (UInt32.ofInt c))) := by
        rw [Hk12.out] at hr; exact hr.set_ 12 _
      have g1 : w.grownBy (wr.setCell ⟨w.heap.size, 12, none⟩ (.int .u32 ((UInt32.ofInt c).toNat : Int))) none := gb_new hg (gb_set1 _ _ _ _) (Nat.le_refl _)
      clear hr hg hc hf
      generalize wr.setCell ⟨w.heap.size, 12, none⟩ (.int .u32 ((UInt32.ofInt c).toNat : Int)) = w1 at *
      clear wr
      have Hfw := Lib.hid (first_words key.data.toList nonce.data.toList (UInt32.ofInt c))
      have Hs1 : Hid (((put zeros16 0 (fun i => w32 (leAt bg.data.toList (4 * i))) 12).setIfInBounds 12 (w32 (UInt32.ofInt c))) = ((put zeros16 0 (fun i => w32 (leAt (opening ++ key.data.toList) (4 * i))) 12).setIfInBounds 12 (w32 (UInt32.ofInt c)))) := by
        show _ = _; rw [Hbg.out]
      have Hsz : Hid (((put zeros16 0 (fun i => w32 (leAt bg.data.toList (4 * i))) 12).setIfInBounds 12 (w32 (UInt32.ofInt c))).size = 16) := by
        show _ = _; rw [Array.size_setIfInBounds, put_size]; rfl
      generalize ((put zeros16 0 (fun i => w32 (leAt bg.data.toList (4 * i))) 12).setIfInBounds 12 (w32 (UInt32.ofInt c))) = cs1 at *
      go_loopw [10] (fun i wr => ∃ k : Nat, k ≤ 3 ∧ i = .int .i64 k ∧ Row wr w.heap.size 38 (put cs1 13 (fun i => w32 (leAt nonce.data.toList (4 * i))) k) ∧ w.grownBy wr none) (fun i _ => 3 - (intOf i).toNat)
      case atStart => exact ⟨0, Nat.zero_le _, rfl, r1, g1⟩
      case round =>
        clear r1 g1
        obtain ⟨j, hj, rfl, hr, hg⟩ := hrel
        by_cases hlt : j < 3
        · have hd2 : decide ((j : Int) < 3) = true := by simp; omega
          have hi : 13 + (j : Int) < 16 := by omega
          have hi0 : 0 ≤ 13 + (j : Int) := by omega
          obtain ⟨m, Hm⟩ : ∃ m : Nat, Hid (m = 4 * j) := ⟨_, rfl⟩
          have hm : 4 * (j : Int) = (m : Int) := by have := Hm.out; omega
          obtain ⟨v0, hv0⟩ : ∃ v, (put cs1 13 (fun i => w32 (leAt nonce.data.toList (4 * i))) j)[13 + j]? = some v := ⟨_, Array.getElem?_eq_getElem (by rw [put_size, Hsz.out]; omega)⟩
          have hc := hr.at_ hv0
          have hf := hr.free (13 + j)
          clear hv0
          go_wp2_with fail
          refine (low_any nonce m _ (by have := Hm.out; have := Hn.out; omega) (by have := Hn.out; omega)).mono ?_
          rintro e w' ⟨rfl, rfl⟩
          go_wp2_with fail
          go_roundw
          case rel =>
            refine ⟨j + 1, by omega, by go_num, ?_, gb_new (gb_drew hg) (gb_set1 _ _ _ _) (Nat.le_refl _)⟩
            have h := hr.drew.set_ (13 + j) (w32 (leAt nonce.data.toList m))
            rw [Hm.out] at h
            simp only [put]
            rw [Hm.out]
            exact h
          case measure => simp [intOf]; omega
        · have Hk3 : Hid (j = 3) := by show j = 3; omega
          have hd2 : decide ((j : Int) < 3) = false := by simp; omega
          have r2 : Row wr w.heap.size 38 ((initW key.data.toList nonce.data.toList (UInt32.ofInt c)).map w32).toArray := by
            rw [Hk3.out, Hs1.out, Hfw.out] at hr; exact hr
          have Hl : Hid ((initW key.data.toList nonce.data.toList (UInt32.ofInt c)).length = 16) := rfl
          have Hw : Hid (blockS key.data.toList nonce.data.toList (UInt32.ofInt c) = streamOf (stir (initW key.data.toList nonce.data.toList (UInt32.ofInt c)))) := rfl
          clear hr hj hlt Hfw Hs1 Hsz
          generalize initW key.data.toList nonce.data.toList (UInt32.ofInt c) = ws at *
          obtain ⟨i0, hi0, hz0, hz1, hz2⟩ := info_parts word_info
          have hlen : (ws.map w32).length = 16 * 1 := by simp [Hl.out]
          have Hlen := Lib.hid hlen
          have Hi0 := Lib.hid hi0
          have Hz0 := Lib.hid hz0
          have Hz1 := Lib.hid hz1
          have Hz2 := Lib.hid hz2
          clear hlen hi0 hz0 hz1 hz2
          have hgs := hg.size
          go_wp2_with (at_builtin; refine wpList_append_own _ rfl (.tmp 60) (.tmp 61) 45 rfl w.heap.size 35 i0 (.int .u32 0) 1 4 Try.underlying45 Hi0.out Hz0.out Hz1.out Hz2.out rfl (by decide) _ 0 [] rfl (World.ownsRow_made wr #[] 0 hgs (by decide) rfl) ⟨w.heap.size, 0, none⟩ 16 16 (ws.map w32) rfl Hlen.out (words_cells (r2.alloc _)) (words_all ws) (by decide) (by decide) (by simp; omega) ?_; intro v2 w2 own2 grow2 _)
          obtain ⟨G, cp, cur, rfl, hG, rG, beg⟩ := begins_own Hl.out (by have h := own2; rw [Nat.zero_add, List.nil_append] at h; exact h)
          have r2' : Row w2 w.heap.size 38 (ws.map w32).toArray := (r2.alloc _).kept grow2 (fun e => Nat.ne_of_lt r2.lt (Option.some.inj (show some w.heap.size = some wr.heap.size from e)))
          have g2 : w.grownBy w2 none := gb_new (gb_alloc hg _) (g := wr.heap.size) grow2 hgs
          have hGB : w.heap.size ≠ G := fun e => row_ne r2' rG (by decide) e
          clear own2 grow2 r2 hg hgs
          go_loopw [12] (fun i wr => ∃ k : Nat, k ≤ 10 ∧ i = .int .i64 k ∧ (∃ cs, Row wr G 35 cs ∧ Begins cs (dbls ws k)) ∧ Row wr w.heap.size 38 (ws.map w32).toArray ∧ w.grownBy wr none) (fun i _ => 10 - (intOf i).toNat)
          case atStart => exact ⟨0, Nat.zero_le _, rfl, ⟨cur, rG, beg⟩, r2', g2⟩
          case round =>
            clear rG beg r2' g2
            obtain ⟨k3, hk3, rfl, ⟨cs, hr, hbe⟩, hb, hg⟩ := hrel
            by_cases hl3 : k3 < 10
            · have hd3 : decide ((k3 : Int) < 10) = true := by simp; omega
              go_wp2
              go_loopw [13] (fun i wr => ∃ q : Nat, q ≤ 4 ∧ i = .int .i64 q ∧ (∃ cs, Row wr G 35 cs ∧ Begins cs (cols (dbls ws k3) q)) ∧ Row wr w.heap.size 38 (ws.map w32).toArray ∧ w.grownBy wr none) (fun i _ => 4 - (intOf i).toNat)
              case atStart => exact ⟨0, Nat.zero_le _, rfl, ⟨cs, hr, hbe⟩, hb, hg⟩
              case round =>
                clear hr hbe hb hg
                obtain ⟨q, hq, rfl, ⟨cs, hr, hbe⟩, hb, hg⟩ := hrel
                have Hbe := Lib.hid hbe
                by_cases hlq : q < 4
                · have hdq : decide ((q : Int) < 4) = true := by simp; omega
                  obtain ⟨b1, Hb1⟩ : ∃ b : Nat, Hid (b = 4 + q) := ⟨_, rfl⟩
                  obtain ⟨b2, Hb2⟩ : ∃ b : Nat, Hid (b = 8 + q) := ⟨_, rfl⟩
                  obtain ⟨b3, Hb3⟩ : ∃ b : Nat, Hid (b = 12 + q) := ⟨_, rfl⟩
                  have hb1 : 4 + (q : Int) = (b1 : Int) := by have := Hb1.out; omega
                  have hb2 : 8 + (q : Int) = (b2 : Int) := by have := Hb2.out; omega
                  have hb3 : 12 + (q : Int) = (b3 : Int) := by have := Hb3.out; omega
                  go_wp2_with fail
                  refine (quarter_ref G cp cs _ q b1 b2 b3 ((cols (dbls ws k3) q).getD q 0) ((cols (dbls ws k3) q).getD b1 0) ((cols (dbls ws k3) q).getD b2 0) ((cols (dbls ws k3) q).getD b3 0) hr (by omega) (by have := Hb1.out; omega) (by have := Hb1.out; omega)
                    (by have := Hb2.out; omega) (by have := Hb2.out; omega) (by have := Hb3.out; omega) (by have := Hb3.out; omega) (Hbe.out.2 q (by omega)) (Hbe.out.2 b1 (by have := Hb1.out; omega)) (Hbe.out.2 b2 (by have := Hb2.out; omega)) (Hbe.out.2 b3 (by have := Hb3.out; omega))).mono ?_
                  rintro e w' ⟨rfl, hr', hg'⟩
                  have hb' := hb.kept hg' (by simpa using hGB)
                  go_wp2_with fail
                  go_roundw
                  case rel =>
                    refine ⟨q + 1, by omega, by go_num, ⟨_, hr', ?_⟩, hb', gb_new hg hg' hG⟩
                    have h := Hbe.out.qr q b1 b2 b3 (by omega) (by have := Hb1.out; omega) (by have := Hb2.out; omega) (by have := Hb3.out; omega)
                    have e : cols (dbls ws k3) (q + 1) = qrAt (cols (dbls ws k3) q) q b1 b2 b3 := by rw [Hb1.out, Hb2.out, Hb3.out]; rfl
                    rw [e]; exact h
                  case measure => simp [intOf]; omega
                · have Hq4 : Hid (q = 4) := by show q = 4; omega
                  have hdq : decide ((q : Int) < 4) = false := by simp; omega
                  clear hq hlq
                  go_wp2
                  go_loopw [14] (fun i wr => ∃ q : Nat, q ≤ 4 ∧ i = .int .i64 q ∧ (∃ cs, Row wr G 35 cs ∧ Begins cs (diags (cols (dbls ws k3) 4) q)) ∧ Row wr w.heap.size 38 (ws.map w32).toArray ∧ w.grownBy wr none) (fun i _ => 4 - (intOf i).toNat)
                  case atStart => exact ⟨0, Nat.zero_le _, rfl, ⟨cs, hr, by have h := Hbe.out; rw [Hq4.out] at h; exact h⟩, hb, hg⟩
                  case round =>
                    clear hr hbe hb hg
                    obtain ⟨q, hq, rfl, ⟨cs, hr, hbe⟩, hb, hg⟩ := hrel
                    have Hbe := Lib.hid hbe
                    by_cases hlq : q < 4
                    · have hdq : decide ((q : Int) < 4) = true := by simp; omega
                      obtain ⟨b1, Hb1⟩ : ∃ b : Nat, Hid (b = 4 + (q + 1) % 4) := ⟨_, rfl⟩
                      obtain ⟨b2, Hb2⟩ : ∃ b : Nat, Hid (b = 8 + (q + 2) % 4) := ⟨_, rfl⟩
                      obtain ⟨b3, Hb3⟩ : ∃ b : Nat, Hid (b = 12 + (q + 3) % 4) := ⟨_, rfl⟩
                      have hb1 : 4 + ((q : Int) + 1) % 4 = (b1 : Int) := by have := Hb1.out; omega
                      have hb2 : 8 + ((q : Int) + 2) % 4 = (b2 : Int) := by have := Hb2.out; omega
                      have hb3 : 12 + ((q : Int) + 3) % 4 = (b3 : Int) := by have := Hb3.out; omega
                      go_wp2_with fail
                      refine (quarter_ref G cp cs _ q b1 b2 b3 ((diags (cols (dbls ws k3) 4) q).getD q 0) ((diags (cols (dbls ws k3) 4) q).getD b1 0) ((diags (cols (dbls ws k3) 4) q).getD b2 0) ((diags (cols (dbls ws k3) 4) q).getD b3 0) hr (by omega) (by have := Hb1.out; omega) (by have := Hb1.out; omega)
                        (by have := Hb2.out; omega) (by have := Hb2.out; omega) (by have := Hb3.out; omega) (by have := Hb3.out; omega) (Hbe.out.2 q (by omega)) (Hbe.out.2 b1 (by have := Hb1.out; omega)) (Hbe.out.2 b2 (by have := Hb2.out; omega)) (Hbe.out.2 b3 (by have := Hb3.out; omega))).mono ?_
                      rintro e w' ⟨rfl, hr', hg'⟩
                      have hb' := hb.kept hg' (by simpa using hGB)
                      go_wp2_with fail
                      go_roundw
                      case rel =>
                        refine ⟨q + 1, by omega, by go_num, ⟨_, hr', ?_⟩, hb', gb_new hg hg' hG⟩
                        have h := Hbe.out.qr q b1 b2 b3 (by omega) (by have := Hb1.out; omega) (by have := Hb2.out; omega) (by have := Hb3.out; omega)
                        have e : diags (cols (dbls ws k3) 4) (q + 1) = qrAt (diags (cols (dbls ws k3) 4) q) q b1 b2 b3 := by rw [Hb1.out, Hb2.out, Hb3.out]; rfl
                        rw [e]; exact h
                      case measure => simp [intOf]; omega
                    · have Hq4 : Hid (q = 4) := by show q = 4; omega
                      have hdq : decide ((q : Int) < 4) = false := by simp; omega
                      clear hq hlq
                      go_wp2
                      go_roundw
                      case rel =>
                        refine ⟨k3 + 1, by omega, by go_num, ⟨cs, hr, ?_⟩, hb, hg⟩
                        have h := Hbe.out
                        rw [Hq4.out, dbl_eq] at h
                        exact h
                      case measure => simp [intOf]; omega
            · have H10 : Hid (k3 = 10) := by show k3 = 10; omega
              have hd3 : decide ((k3 : Int) < 10) = false := by simp; omega
              clear hk3 hl3
              go_wp2
              have hbe' : Begins cs (dbls ws 10) := by rw [← H10.out]; exact hbe
              have Hbe := Lib.hid hbe'
              have Hb1 := Lib.hid byte_infoR
              clear hbe hbe'
              go_loopw [15, 16, 17] (fun v i _ wr => ∃ q : Nat, q ≤ 16 ∧ i = .int .i64 q ∧ wr.ownsRow w.heap.size 5 1 v (4 * q) ((firstBytes (stir ws) q).map w8) ∧ Row wr G 35 cs ∧ Row wr w.heap.size 38 (ws.map w32).toArray ∧ w.grownBy wr none) (fun _ i _ _ => 16 - (intOf i).toNat)
              case atStart => exact ⟨0, Nat.zero_le _, rfl, World.ownsRow_nil _ _ _ _, hr, hb, hg⟩
              case round =>
                clear hr hb hg
                obtain ⟨q, hq, rfl, hown, hr, hb, hg⟩ := hrel
                by_cases hlq : q < 16
                · have hdq : decide ((q : Int) < 16) = true := by simp; omega
                  have hiq : (q : Int) < 16 := by omega
                  have cx : wr.cell? ⟨G, q, none⟩ = some (.int .u32 (((dbls ws 10).getD q 0).toNat : Int)) := hr.at_ (Hbe.out.2 q hlq)
                  have cy : wr.cell? ⟨w.heap.size, q, none⟩ = some (.int .u32 ((ws.getD q 0).toNat : Int)) := hb.at_ (words_get _ _ (by rw [Hl.out]; exact hlq))
                  obtain ⟨x, Hx⟩ : ∃ x, Hid (x = pl ((dbls ws 10).getD q 0) (ws.getD q 0)) := ⟨_, rfl⟩
                  have Hxs : Hid (x = (stir ws).getD q 0) := by show x = _; rw [Hx.out, stir_getD _ _ (by rw [Hl.out]; exact hlq)]
                  generalize (dbls ws 10).getD q 0 = xa at cx Hx
                  generalize ws.getD q 0 = xb at cy Hx
                  go_wp2
                  go_region
                  rw [pl_walk, ← Hx.out]
                  have y0 := byte_0 x
                  have y1 := byte_1 x
                  have y2 := byte_2 x
                  have y3 := byte_3 x
                  obtain ⟨i1, hi1, hz1, hz2, hz3⟩ := info_parts Hb1.out
                  have Hi1 := Lib.hid hi1
                  have Hy1 := Lib.hid hz1
                  have Hy2 := Lib.hid hz2
                  have Hy3 := Lib.hid hz3
                  clear hi1 hz1 hz2 hz3 cx cy
                  have hgs := hg.size
                  have Hn : Hid (∀ j u, ([bOf x 0, bOf x 1, bOf x 2, bOf x 3].map w8)[j]? = some u → ((wr.alloc (.cells ([bOf x 0, bOf x 1, bOf x 2, bOf x 3].map w8).toArray 5)).drew).cell? ((⟨wr.heap.size, 0, none⟩ : Addr).add j) = some u) :=
                    list_cells (Row.new wr _ _).drew
                  have Hs : Hid (w.heap.size ≤ ((wr.alloc (.cells ([bOf x 0, bOf x 1, bOf x 2, bOf x 3].map w8).toArray 5)).drew).heap.size) := by show _ ≤ _; simp; omega
                  have Hm : Hid (4 * q + 4 ≤ maxLen ∧ (4 * q + 4) * 1 ≤ 140737488355328) := by show _ ∧ _; simp only [maxLen]; omega
                  go_wp2_with (at_builtin; refine wpList_append_own _ rfl (.tmp 111) (.tmp 123) 25 rfl w.heap.size 5 i1 (.int .u8 0) 1 1 Try.underlying25 Hi1.out Hy1.out Hy2.out Hy3.out rfl (by decide) _ (4 * q) _ rfl ((hown.alloc _).drew) ⟨wr.heap.size, 0, none⟩ 4 4 ([bOf x 0, bOf x 1, bOf x 2, bOf x 3].map w8) rfl rfl Hn.out (bytes_all _) Hm.out.1 Hm.out.2 Hs.out ?_; intro v' w' own' grow' _)
                  refine ⟨⟨q + 1, by omega, by go_num, ?_, ((hr.alloc _).drew).kept grow' (own_ne hown hr (by decide)), ((hb.alloc _).drew).kept grow' (own_ne hown hb (by decide)), gb_step (gb_drew (gb_alloc hg _)) grow' (fun i e => .inr (hown.lt i e).1)⟩, ?_⟩
                  · rw [firstBytes_succ, ← Hxs.out, List.map_append]
                    exact own'
                  · simp [intOf]; omega
                · have Hq : Hid (q = 16) := by show q = 16; omega
                  have hdq : decide ((q : Int) < 16) = false := by simp; omega
                  obtain ⟨g3, cp3, rfl, hcells⟩ := bytes_own (l := streamOf (stir ws)) (n := 64) (by have h := hown; rw [Hq.out, firstBytes_16] at h; exact h) (by decide)
                  have hconv := run_convert_bytes_back (P := Try.prog) wr 25 9 5 ⟨g3, 0, none⟩ cp3 (streamOf (stir ws)) Try.underlying25 Try.underlying5 Try.underlying9 hcells
                  clear hq hlq hcells
                  go_wp2
                  go_ret
                  rw [Hb.out, Hw.out]
                  exact ⟨rfl, hg⟩

/-- The document's Block: whatever it is given. -/
theorem refBlock_any (key nonce : ByteArray) (c : Int) (w : World) :
    Calls Try.prog 11 #[.string key, .string nonce, .int .i64 c] w fun e w' => e = .returned (.string (blockA key nonce c)) ∧ w.grownBy w' none := by
  cases hf : fitsB key.size nonce.size c 1 with
  | false => exact refBlock_no key nonce c w hf
  | true =>
    have h := hf
    simp only [fitsB, decide_eq_true_eq] at h
    exact refBlock_yes key nonce c w h.1 h.2.1 h.2.2.1 (by omega) hf
end Go.Proofs.Ytkeincmmcdcggaa
