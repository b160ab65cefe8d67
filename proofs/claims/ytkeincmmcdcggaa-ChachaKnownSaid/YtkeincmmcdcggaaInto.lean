/- chacha.xorInto: bytes turned by a block. -/
import Derived.Test.YtkeincmmcdcggaaStir
import Derived.Test.YtkeincmmcdcggaaByte
namespace Go.Proofs.Ytkeincmmcdcggaa
open Go.RowKit Wd Mm

theorem len39 : Try.prog.arrayLen 39 = 16 := by kernel_rfl
theorem elem39 : Try.prog.elem 39 = 35 := by kernel_rfl
theorem sizeOf35 (w : World) : (sizeOf 35).run Try.prog w = .ok 1 w := by kernel_rfl
theorem slice39 (b m : Nat) (hm : m ≤ 16) (w : World) : (Instr.sliceAt 39 (.pointer (some ⟨b, 0, none⟩)) none (some (.int .i64 (m : Int))) none).run Try.prog w = .ok (.slice (some ⟨b, 0, none⟩) m 16) w := by
  have h := run_sliceAt_array_h (P := Try.prog) w 39 ⟨b, 0, none⟩ (by rw [len39, elem39]; exact Try.underlying39) .i64 (m : Int) (by omega) (by rw [len39]; omega)
  rw [h, elem39, sizeOf35, len39]
  simp [slicedAt, Result.andThen]
  rfl

set_option maxHeartbeats 1000000 in
set_option maxRecDepth 100000 in
theorem into_any (b g o n c : Nat) (ws : List UInt32) (ps : List UInt8) (cs : Array Value) (t : TypeId) (ht : 39 ≠ t) (w : World) (hl : ws.length = 16) (hn : ps.length = n) (hn64 : n ≤ 64) (hc : n ≤ c)
    (hb : Row w b 39 (ws.map w32).toArray) (hg : Row w g t cs) (hp : ∀ i, i < n → cs[o + i]? = some (w8 (ps.getD i 0))) :
    Calls Try.prog 19 #[.pointer (some ⟨b, 0, none⟩), .slice (some ⟨g, o, none⟩) n c] w
      fun e w' => e = .returned (.tuple #[]) ∧ Row w' g t (put cs o (turned ps ws) n) ∧ w.grownBy w' (some g) := by
  have Hl := Lib.hid hl
  have Hn := Lib.hid hn
  clear hl hn
  obtain ⟨m, hm⟩ : ∃ m : Nat, (n : Int) / 4 = (m : Int) := ⟨n / 4, by omega⟩
  have hm16 : m ≤ 16 := by omega
  have Hp := Lib.hid hp
  clear hp
  go_enter Try.func19, Try.ntmps19
  have hsl := slice39 b m hm16
  go_wp2
  go_loopw [17, 5, 6, 7] (fun i _ _ _ wr => ∃ k : Nat, k ≤ m ∧ i = .int .i64 k ∧ Row wr g t (put cs o (turned ps ws) (4 * k)) ∧ w.grownBy wr (some g)) (fun i _ _ _ _ => m - (intOf i).toNat)
  case atStart => exact ⟨0, Nat.zero_le _, rfl, hg, gb_refl _ _⟩
  case round =>
    clear hsl
    obtain ⟨k, hk, rfl, hr, hgr⟩ := hrel
    by_cases hlt : k < m
    · obtain ⟨a, Ha⟩ : ∃ a : Nat, Hid (a = 4 * k) := ⟨_, rfl⟩
      have ha : 4 * (k : Int) = (a : Int) := by have := Ha.out; omega
      have ha1 : a + 4 ≤ n := by have := Ha.out; omega
      have ha2 : (a : Int) + 4 ≤ (c : Int) := by omega
      have ha3 : (a : Int) ≤ (a : Int) + 4 := by omega
      have ha4 : ¬ c = a := by omega
      have cw : wr.cell? ⟨b, k, none⟩ = some (.int .u32 ((ws.getD k 0).toNat : Int)) := by
        refine (hb.kept hgr ?_).at_ (words_get _ _ (by have := Hl.out; omega))
        intro e; injection e with e
        exact row_ne hb hg ht e
      have cp : ∀ j, j < 4 → wr.cell? ⟨g, o + a + j, none⟩ = some (.int .u8 ((ps.getD (a + j) 0).toNat : Int)) := by
        intro j hj
        refine hr.at_ ?_
        rw [put_get, if_neg (by have := Ha.out; omega), Nat.add_assoc]
        exact Hp.out _ (by omega)
      have c0 : wr.cell? ⟨g, o + a, none⟩ = some (.int .u8 ((ps.getD a 0).toNat : Int)) := cp 0 (by decide)
      have c1 : wr.cell? ⟨g, o + a + 1, none⟩ = some (.int .u8 ((ps.getD (a + 1) 0).toNat : Int)) := cp 1 (by decide)
      have c2 : wr.cell? ⟨g, o + a + 2, none⟩ = some (.int .u8 ((ps.getD (a + 2) 0).toNat : Int)) := cp 2 (by decide)
      have c3 : wr.cell? ⟨g, o + a + 3, none⟩ = some (.int .u8 ((ps.getD (a + 3) 0).toNat : Int)) := cp 3 (by decide)
      clear cp
      have hf : ∀ i, wr.frozen? ⟨g, i, none⟩ = false := fun i => hr.free i
      generalize hxw : ws.getD k 0 = xw at cw
      have Hxw := Lib.hid hxw
      clear hxw
      generalize hp0 : ps.getD a 0 = p0 at c0
      have Hp0 := Lib.hid hp0
      clear hp0
      generalize hp1 : ps.getD (a + 1) 0 = p1 at c1
      have Hp1 := Lib.hid hp1
      clear hp1
      generalize hp2 : ps.getD (a + 2) 0 = p2 at c2
      have Hp2 := Lib.hid hp2
      clear hp2
      generalize hp3 : ps.getD (a + 3) 0 = p3 at c3
      have Hp3 := Lib.hid hp3
      clear hp3
      go_wp2
      go_roundw
      case rel =>
        have e : put cs o (turned ps ws) (4 * (k + 1)) =
            ((((put cs o (turned ps ws) (4 * k)).setIfInBounds (o + a) (.int .u8 ((xb p0 (bOf xw 0)).toNat : Int))).setIfInBounds (o + a + 1) (.int .u8 ((xb p1 (bOf xw 1)).toNat : Int))).setIfInBounds
              (o + a + 2) (.int .u8 ((xb p2 (bOf xw 2)).toNat : Int))).setIfInBounds (o + a + 3) (.int .u8 ((xb p3 (bOf xw 3)).toNat : Int)) := by
          have t0 := turned_at ps ws k a 0 Ha.out (by decide)
          have t1 := turned_at ps ws k a 1 Ha.out (by decide)
          have t2 := turned_at ps ws k a 2 Ha.out (by decide)
          have t3 := turned_at ps ws k a 3 Ha.out (by decide)
          rw [Nat.add_zero] at t0
          rw [Hxw.out, Hp0.out] at t0
          rw [Hxw.out, Hp1.out] at t1
          rw [Hxw.out, Hp2.out] at t2
          rw [Hxw.out, Hp3.out] at t3
          rw [show 4 * (k + 1) = a + 4 by have := Ha.out; omega, ← Ha.out, ← t0, ← t1, ← t2, ← t3]
          rfl
        rw [byte_0, byte_1, byte_2, byte_3, xb_walk, xb_walk, xb_walk, xb_walk]
        refine ⟨k + 1, by omega, by go_num, ?_, gb_then (gb_then (gb_then (gb_then hgr (gb_set1 _ _ _ _)) (gb_set1 _ _ _ _)) (gb_set1 _ _ _ _)) (gb_set1 _ _ _ _)⟩
        rw [e]
        exact (((hr.set_ _ _).set_ _ _).set_ _ _).set_ _ _
      case measure => simp [intOf]; omega
    · obtain ⟨a, Ha⟩ : ∃ a : Nat, Hid (a = 4 * m) := ⟨_, rfl⟩
      have ha : 4 * (m : Int) = (a : Int) := by have := Ha.out; omega
      have Hkm : Hid (k = m) := by show k = m; omega
      have ha1 : a ≤ n := by have := Ha.out; omega
      have ha2 : n < a + 4 := by have := Ha.out; omega
      have hr' : Row wr g t (put cs o (turned ps ws) a) := by rw [Ha.out, ← Hkm.out]; exact hr
      clear hk hr
      have hf : ∀ i, wr.frozen? ⟨g, i, none⟩ = false := fun i => hr'.free i
      have hbr : b ≠ g := row_ne hb hg ht
      have cp : ∀ j, a + j < n → wr.cell? ⟨g, o + a + j, none⟩ = some (.int .u8 ((ps.getD (a + j) 0).toNat : Int)) := by
        intro j hj
        refine hr'.at_ ?_
        rw [put_get, if_neg (by omega), Nat.add_assoc]
        exact Hp.out _ hj
      have cw : m < 16 → wr.cell? ⟨b, m, none⟩ = some (.int .u32 ((ws.getD m 0).toNat : Int)) := by
        intro h
        refine (hb.kept hgr ?_).at_ (words_get _ _ (by have := Hl.out; omega))
        intro e; injection e with e
        exact hbr e
      have Hcp := Lib.hid cp
      have Hcw := Lib.hid cw
      clear cp cw
      have hr : n - a = 0 ∨ n - a = 1 ∨ n - a = 2 ∨ n - a = 3 := by omega
      rcases hr with hr | hr | hr | hr
      · have ena : n = a := by omega
        have Hena := Lib.hid ena
        clear ena
        have t3 : (((n - a : Nat) : Int) == 3) = false := by rw [hr]; rfl
        have t2 : (((n - a : Nat) : Int) == 2) = false := by rw [hr]; rfl
        have t1 : (((n - a : Nat) : Int) == 1) = false := by rw [hr]; rfl
        have Hr := Lib.hid hr
        clear hr
        go_wp2
        all_goals
          go_end0
          refine ⟨rfl, ?_, hgr⟩
          rw [Hena.out]; exact hr'
      · have hca : ¬ c = a := by omega
        have hm2 : m < 16 := by have := Ha.out; omega
        have cw := Hcw.out hm2
        generalize hxw : ws.getD m 0 = xw at cw
        have Hxw := Lib.hid hxw
        clear hxw
        have c0 : wr.cell? ⟨g, o + a, none⟩ = some (.int .u8 ((ps.getD (a) 0).toNat : Int)) := Hcp.out 0 (by omega)
        generalize hp0 : ps.getD (a) 0 = p0 at c0
        have Hp0 := Lib.hid hp0
        clear hp0
        have Hena : Hid (n = a + 1) := by show n = a + 1; omega
        have t3 : (((n - a : Nat) : Int) == 3) = false := by rw [hr]; rfl
        have t2 : (((n - a : Nat) : Int) == 2) = false := by rw [hr]; rfl
        have t1 : (((n - a : Nat) : Int) == 1) = true := by rw [hr]; rfl
        have i0 : 0 < n - a := by omega
        have Hr := Lib.hid hr
        clear hr
        go_wp2
        go_region
        go_wp2
        go_end0
        refine ⟨rfl, ?_, ?_⟩
        · rw [Hena.out]
          have t0 := turned_at ps ws m a 0 Ha.out (by decide)
          rw [Nat.add_zero] at t0
          rw [Hxw.out, Hp0.out] at t0
          rw [byte_0, xb_walk, put_1, t0]
          exact (hr'.set_ _ _).drew
        · exact gb_drew (gb_then (hgr) (gb_set1 _ _ _ _))
      · have hca : ¬ c = a := by omega
        have hm2 : m < 16 := by have := Ha.out; omega
        have cw := Hcw.out hm2
        generalize hxw : ws.getD m 0 = xw at cw
        have Hxw := Lib.hid hxw
        clear hxw
        have c0 : wr.cell? ⟨g, o + a, none⟩ = some (.int .u8 ((ps.getD (a) 0).toNat : Int)) := Hcp.out 0 (by omega)
        generalize hp0 : ps.getD (a) 0 = p0 at c0
        have Hp0 := Lib.hid hp0
        clear hp0
        have c1 : wr.cell? ⟨g, o + a + 1, none⟩ = some (.int .u8 ((ps.getD (a + 1) 0).toNat : Int)) := Hcp.out 1 (by omega)
        generalize hp1 : ps.getD (a + 1) 0 = p1 at c1
        have Hp1 := Lib.hid hp1
        clear hp1
        have Hena : Hid (n = a + 2) := by show n = a + 2; omega
        have t3 : (((n - a : Nat) : Int) == 3) = false := by rw [hr]; rfl
        have t2 : (((n - a : Nat) : Int) == 2) = true := by rw [hr]; rfl
        have t1 : (((n - a : Nat) : Int) == 1) = false := by rw [hr]; rfl
        have i0 : 0 < n - a := by omega
        have i1 : (1 : Int) < ((n - a : Nat) : Int) := by omega
        have Hr := Lib.hid hr
        clear hr
        go_wp2
        go_region
        go_wp2
        go_region
        go_wp2
        go_end0
        refine ⟨rfl, ?_, ?_⟩
        · rw [Hena.out]
          have t0 := turned_at ps ws m a 0 Ha.out (by decide)
          rw [Nat.add_zero] at t0
          rw [Hxw.out, Hp0.out] at t0
          have t1 := turned_at ps ws m a 1 Ha.out (by decide)
          rw [Hxw.out, Hp1.out] at t1
          rw [byte_0, byte_1, xb_walk, xb_walk, put_back2, t0, t1]
          exact ((hr'.set_ _ _).drew.set_ _ _).drew
        · exact gb_drew (gb_then (gb_drew (gb_then (hgr) (gb_set1 _ _ _ _))) (gb_set1 _ _ _ _))
      · have hca : ¬ c = a := by omega
        have hm2 : m < 16 := by have := Ha.out; omega
        have cw := Hcw.out hm2
        generalize hxw : ws.getD m 0 = xw at cw
        have Hxw := Lib.hid hxw
        clear hxw
        have c0 : wr.cell? ⟨g, o + a, none⟩ = some (.int .u8 ((ps.getD (a) 0).toNat : Int)) := Hcp.out 0 (by omega)
        generalize hp0 : ps.getD (a) 0 = p0 at c0
        have Hp0 := Lib.hid hp0
        clear hp0
        have c1 : wr.cell? ⟨g, o + a + 1, none⟩ = some (.int .u8 ((ps.getD (a + 1) 0).toNat : Int)) := Hcp.out 1 (by omega)
        generalize hp1 : ps.getD (a + 1) 0 = p1 at c1
        have Hp1 := Lib.hid hp1
        clear hp1
        have c2 : wr.cell? ⟨g, o + a + 2, none⟩ = some (.int .u8 ((ps.getD (a + 2) 0).toNat : Int)) := Hcp.out 2 (by omega)
        generalize hp2 : ps.getD (a + 2) 0 = p2 at c2
        have Hp2 := Lib.hid hp2
        clear hp2
        have Hena : Hid (n = a + 3) := by show n = a + 3; omega
        have t3 : (((n - a : Nat) : Int) == 3) = true := by rw [hr]; rfl
        have t2 : (((n - a : Nat) : Int) == 2) = false := by rw [hr]; rfl
        have t1 : (((n - a : Nat) : Int) == 1) = false := by rw [hr]; rfl
        have i0 : 0 < n - a := by omega
        have i1 : (1 : Int) < ((n - a : Nat) : Int) := by omega
        have i2 : (2 : Int) < ((n - a : Nat) : Int) := by omega
        have Hr := Lib.hid hr
        clear hr
        go_wp2
        go_region
        go_wp2
        go_region
        go_wp2
        go_region
        go_wp2
        go_end0
        refine ⟨rfl, ?_, ?_⟩
        · rw [Hena.out]
          have t0 := turned_at ps ws m a 0 Ha.out (by decide)
          rw [Nat.add_zero] at t0
          rw [Hxw.out, Hp0.out] at t0
          have t1 := turned_at ps ws m a 1 Ha.out (by decide)
          rw [Hxw.out, Hp1.out] at t1
          have t2 := turned_at ps ws m a 2 Ha.out (by decide)
          rw [Hxw.out, Hp2.out] at t2
          rw [byte_0, byte_1, byte_2, xb_walk, xb_walk, xb_walk, put_back3, t0, t1, t2]
          exact (((hr'.set_ _ _).drew.set_ _ _).drew.set_ _ _).drew
        · exact gb_drew (gb_then (gb_drew (gb_then (gb_drew (gb_then (hgr) (gb_set1 _ _ _ _))) (gb_set1 _ _ _ _))) (gb_set1 _ _ _ _))
end Go.Proofs.Ytkeincmmcdcggaa
