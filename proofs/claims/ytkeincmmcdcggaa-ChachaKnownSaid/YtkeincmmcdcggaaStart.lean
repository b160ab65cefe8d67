/- chacha.start: the words ahead of the rounds. -/
import Derived.Test.YtkeincmmcdcggaaFill
namespace Go.Proofs.Ytkeincmmcdcggaa
open Go.RowKit Wd Mm

theorem size39 : (Try.prog.info? 39).map (·.size) = some 16 := by kernel_rfl

theorem init_size (k n : List UInt8) (c : UInt32) : (Try.prog.info? 39).map (·.size) = some ((initW k n c).map w32).toArray.size := by rw [size39]; rfl
theorem words_one (l : List UInt32) : ((l.map w32).toArray).all (·.oneCell') = true := by
  rw [Array.all_eq_true_iff_forall_mem]
  intro v hv
  simp only [List.mem_toArray, List.mem_map] at hv
  obtain ⟨x, _, rfl⟩ := hv
  rfl

set_option maxHeartbeats 400000 in
theorem start_any (key nonce : ByteArray) (c : Int) (w : World) (hk : key.size = 32) (hn : nonce.size = 12) :
    Calls Try.prog 17 #[.string key, .string nonce, .int .i64 c] w
      fun e w' => e = .returned (.agg ((initW key.data.toList nonce.data.toList (UInt32.ofInt c)).map w32).toArray) ∧ w.grownBy w' none := by
  have Hk := Lib.hid hk
  have Hn := Lib.hid hn
  clear hk hn
  go_enter Try.func17, Try.ntmps17
  go_wp2_with fail
  have h0 := heap_alloc2_old w (.cells #[Value.int IntKind.u32 0, Value.int IntKind.u32 0, Value.int IntKind.u32 0, Value.int IntKind.u32 0,
            Value.int IntKind.u32 0, Value.int IntKind.u32 0, Value.int IntKind.u32 0, Value.int IntKind.u32 0,
            Value.int IntKind.u32 0, Value.int IntKind.u32 0, Value.int IntKind.u32 0, Value.int IntKind.u32 0,
            Value.int IntKind.u32 0, Value.int IntKind.u32 0, Value.int IntKind.u32 0, Value.int IntKind.u32 0]
            39) (.cells #[Value.int IntKind.u32 0, Value.int IntKind.u32 0, Value.int IntKind.u32 0, Value.int IntKind.u32 0,
            Value.int IntKind.u32 0, Value.int IntKind.u32 0, Value.int IntKind.u32 0, Value.int IntKind.u32 0,
            Value.int IntKind.u32 0, Value.int IntKind.u32 0, Value.int IntKind.u32 0, Value.int IntKind.u32 0,
            Value.int IntKind.u32 0, Value.int IntKind.u32 0, Value.int IntKind.u32 0, Value.int IntKind.u32 0]
            39)
  have h1 := gb_alloc (gb_alloc (gb_refl w none) (.cells #[Value.int IntKind.u32 0, Value.int IntKind.u32 0, Value.int IntKind.u32 0, Value.int IntKind.u32 0,
            Value.int IntKind.u32 0, Value.int IntKind.u32 0, Value.int IntKind.u32 0, Value.int IntKind.u32 0,
            Value.int IntKind.u32 0, Value.int IntKind.u32 0, Value.int IntKind.u32 0, Value.int IntKind.u32 0,
            Value.int IntKind.u32 0, Value.int IntKind.u32 0, Value.int IntKind.u32 0, Value.int IntKind.u32 0]
            39)) (.cells #[Value.int IntKind.u32 0, Value.int IntKind.u32 0, Value.int IntKind.u32 0, Value.int IntKind.u32 0,
            Value.int IntKind.u32 0, Value.int IntKind.u32 0, Value.int IntKind.u32 0, Value.int IntKind.u32 0,
            Value.int IntKind.u32 0, Value.int IntKind.u32 0, Value.int IntKind.u32 0, Value.int IntKind.u32 0,
            Value.int IntKind.u32 0, Value.int IntKind.u32 0, Value.int IntKind.u32 0, Value.int IntKind.u32 0]
            39)
  refine (fill_any (w.heap.size + 1) 0 4 16 _ _ 39 _ (heap_alloc2_new _ _ _) (by decide) (by decide) (by decide)).mono ?_
  rintro e w1 ⟨rfl, r1, g1⟩
  have q1 : Row w1 (w.heap.size + 1) 39 #[w32 (leAt opening 0), w32 (leAt opening 4), w32 (leAt opening 8), w32 (leAt opening 12), .int .u32 0, .int .u32 0, .int .u32 0, .int .u32 0, .int .u32 0, .int .u32 0, .int .u32 0, .int .u32 0, .int .u32 0, .int .u32 0, .int .u32 0, .int .u32 0] := by rw [put_0_4] at r1; exact r1
  have o1 : Row w1 w.heap.size 39 _ := Row.kept h0 g1 (by simp)
  have b1 := gb_new h1 g1 (by omega)
  clear h0 h1 g1 r1
  go_wp2_with fail
  refine (fill_any (w.heap.size + 1) 4 8 12 _ _ 39 _ q1 Hk.out (by decide) (by decide)).mono ?_
  rintro e w2 ⟨rfl, r2, g2⟩
  have q2 : Row w2 (w.heap.size + 1) 39 #[w32 (leAt opening 0), w32 (leAt opening 4), w32 (leAt opening 8), w32 (leAt opening 12), w32 (leAt key.data.toList 0), w32 (leAt key.data.toList 4), w32 (leAt key.data.toList 8), w32 (leAt key.data.toList 12), w32 (leAt key.data.toList 16), w32 (leAt key.data.toList 20), w32 (leAt key.data.toList 24), w32 (leAt key.data.toList 28), .int .u32 0, .int .u32 0, .int .u32 0, .int .u32 0] := by rw [put_4_8] at r2; exact r2
  have o2 : Row w2 w.heap.size 39 _ := Row.kept o1 g2 (by simp)
  have b2 := gb_new b1 g2 (by omega)
  clear o1 b1 g2 r2 q1
  have hc := q2.at_ (i := 12) (v := .int .u32 0) rfl
  have hf := q2.free 12
  go_wp2_with fail
  rw [ofInt32]
  refine (fill_any (w.heap.size + 1) 13 3 3 _ _ 39 _ (q2.set_ 12 _) Hn.out (by simp) (by decide)).mono ?_
  rintro e w3 ⟨rfl, r3, g3⟩
  have q3 : Row w3 (w.heap.size + 1) 39 ((initW key.data.toList nonce.data.toList (UInt32.ofInt c)).map w32).toArray := by
    simp only [List.setIfInBounds_toArray, List.set_cons_succ, List.set_cons_zero] at r3
    rw [put_13_3] at r3; exact r3
  have o3 : Row w3 w.heap.size 39 _ := Row.kept (o2.far (a := ⟨w.heap.size + 1, 12, none⟩) (by simp) _) g3 (by simp)
  have b3 := gb_new (gb_new b2 (gb_set1 _ _ _ _) (by omega)) g3 (by omega)
  clear q2 o2 b2 hc hf r3 g3
  have hsz := init_size key.data.toList nonce.data.toList (UInt32.ofInt c)
  have hone := words_one (initW key.data.toList nonce.data.toList (UInt32.ofInt c))
  have hz : (#[Value.int IntKind.u32 0, Value.int IntKind.u32 0, Value.int IntKind.u32 0, Value.int IntKind.u32 0,
    Value.int IntKind.u32 0, Value.int IntKind.u32 0, Value.int IntKind.u32 0, Value.int IntKind.u32 0,
    Value.int IntKind.u32 0, Value.int IntKind.u32 0, Value.int IntKind.u32 0, Value.int IntKind.u32 0,
    Value.int IntKind.u32 0, Value.int IntKind.u32 0, Value.int IntKind.u32 0, Value.int IntKind.u32 0] : Array Value).size = ((initW key.data.toList nonce.data.toList (UInt32.ofInt c)).map w32).toArray.size := rfl
  generalize hcs : ((initW key.data.toList nonce.data.toList (UInt32.ofInt c)).map w32).toArray = cs at *
  have Hcs := Lib.hid hcs
  have Hsz := Lib.hid hsz
  have Hone := Lib.hid hone
  have Hz := Lib.hid hz
  clear hsz hone hz hcs
  go_wp2_with (first
    | (refine wpList_load_row rfl 39 (.tmp 7) rfl (w.heap.size + 1) rfl 39 cs (0, 0) _ q3 Try.underlying39 rfl Hsz.out ?_)
    | (refine wpList_store_row rfl 39 (.tmp 6) (.tmp 19) rfl w.heap.size cs rfl rfl 39 _ o3 Hsz.out Hz.out Hone.out ?_))
  refine bodyPost_ret (results_cell_row rfl _ _ w.heap.size 39 cs (0, 0) _ rfl (o3.setRow_ cs) Try.underlying39 rfl Hsz.out) rfl ?_
  exact ⟨by rw [Hcs.out], gb_new b3 (gb_setRow1 _ _ _) (by omega)⟩
end Go.Proofs.Ytkeincmmcdcggaa
