/- The document's put: a wire's bytes behind a row of bytes. -/
import Derived.Test.YtbammjhafgbfkaaDoorVBuild
import Derived.Test.YtbammjhafgbfkaaDoorVEight
namespace Go.Proofs.YtbammjhafgbfkaaDoor
open Go.RowKit Wd Mm Vw

/-- A row of bytes of the call's own, and what making it longer turned. -/
def Ap (B : Nat) (w : World) (v v' : Value) (w' : World) (l : List UInt8) : Prop :=
  w'.ownsRow B 5 1 v' l.length (l.map w8) ∧ w.grownBy w' v.ownBlock ∧ (v'.ownBlock = v.ownBlock ∨ ∃ g, v'.ownBlock = some g ∧ w.heap.size ≤ g)
theorem Ap.slice {B : Nat} {w w' : World} {v v' : Value} {l : List UInt8} (h : Ap B w v v' w' l) : ∃ A m c, v' = .slice A m c := own_slice h.1
theorem Ap.trans {B : Nat} {w w1 w2 : World} {v v1 v2 : Value} {l1 l2 : List UInt8} (h : Ap B w v v1 w1 l1) (k : Ap B w1 v1 v2 w2 l2) : Ap B w v v2 w2 l2 := by
  refine ⟨k.1, gb_step h.2.1 k.2.1 (fun i e => ?_), ?_⟩
  · rcases h.2.2 with h2 | ⟨g, h2, hg⟩
    · exact .inl (h2.symm.trans e)
    · exact .inr (by rw [h2] at e; cases e; exact hg)
  · have hs := h.2.1.size
    rcases k.2.2 with k2 | ⟨g, k2, hg⟩
    · rw [k2]; exact h.2.2
    · exact .inr ⟨g, k2, by omega⟩
theorem Ap.start {B : Nat} {w : World} {v : Value} {l : List UInt8} (h : w.ownsRow B 5 1 v l.length (l.map w8)) : Ap B w v v w l := ⟨h, gb_refl _ _, .inl rfl⟩
theorem row_stays {B : Nat} {w w' : World} {v : Value} {l : List UInt8} (h : w.ownsRow B 5 1 v l.length (l.map w8)) (k : w.grownBy w' none) : w'.ownsRow B 5 1 v l.length (l.map w8) := by
  refine h.kept k ?_
  by_cases hv : v.ownBlock = none
  · exact .inl hv
  · exact .inr hv
theorem Ap.more {B : Nat} {w w1 w2 : World} {v v1 : Value} {l : List UInt8} (h : Ap B w v v1 w1 l) (k : w1.grownBy w2 none) : Ap B w v v1 w2 l :=
  ⟨row_stays h.1 k, gb_none h.2.1 k, h.2.2⟩
theorem Ap.ahead {B : Nat} {w w1 w2 : World} {v v2 : Value} {l : List UInt8} (k : w.grownBy w1 none) (h : Ap B w1 v v2 w2 l) : Ap B w v v2 w2 l :=
  ⟨h.1, gb_step (gb_none' k) h.2.1 (fun _ e => .inl e), h.2.2.imp id (fun ⟨g, e, hg⟩ => ⟨g, e, Nat.le_trans k.size hg⟩)⟩
/-- A block of the call's own, none of the row's, stays. -/
theorem Ap.block {B : Nat} {w0 w w' : World} {v v' : Value} {l0 l : List UInt8} (h0 : w0.ownsRow B 5 1 v l0.length (l0.map w8)) (hs : w0.heap.size < w.heap.size) (h : Ap B w v v' w' l) : w'.heap[w0.heap.size]? = w.heap[w0.heap.size]? :=
  h.2.1.block _ hs (fun e => by have := (h0.lt _ e.symm).2; omega)
/-- All that was there before the row was begun. -/
theorem Ap.old {w0 w w' : World} {v v' : Value} {l0 l : List UInt8} (h0 : w.ownsRow w0.heap.size 5 1 v l0.length (l0.map w8)) (hg : w0.grownBy w none) (h : Ap w0.heap.size w v v' w' l) : w0.grownBy w' none :=
  gb_step hg h.2.1 (fun i e => .inr (h0.lt i e).1)
/-- Appending a text. -/
theorem ap_text {B : Nat} {w : World} {v : Value} {l : List UInt8} (h : w.ownsRow B 5 1 v l.length (l.map w8)) (s : ByteArray) (hlen : l.length + s.size ≤ 140737488355328) (hB : B ≤ w.heap.size) :
    ∃ v' w', (Builtin.append_ #[35, 9] 35 #[v, .string s]).run Tryd.prog w = .ok v' w' ∧ Ap B w v v' w' (l ++ s.data.toList) := by
  obtain ⟨i, hi, hz, hs1, hs2⟩ := byte_parts
  obtain ⟨v', w', hrun, hown', hgrow, hnn⟩ := Lib.run_append_own_string (P := Tryd.prog) w B 35 9 35 5 i Tryd.underlying35 Tryd.underlying9 hi hz hs1 hs2 v _ _ h s (by simp only [maxLen]; omega) hlen hB
  have hloc := text_loc h hlen hrun hnn
  refine ⟨v', w', hrun, ?_, hgrow, hloc.imp id fun h => ⟨_, h, Nat.le_refl _⟩⟩
  have e1 : (l ++ s.data.toList).map w8 = l.map w8 ++ Lib.strCells s := by rw [List.map_append, text_cells]
  have e2 : (l ++ s.data.toList).length = l.length + s.size := by simp
  rw [e1, e2]
  exact hown'
/-- Appending a byte. -/
theorem ap_byte {B : Nat} {w w' : World} {v v' : Value} {l : List UInt8} {y : UInt8} {n : Int} (hn : n = (y.toNat : Int)) (own' : w'.ownsRow B 5 1 v' (l.length + 1) (l.map w8 ++ [.int .u8 n])) (grow' : w.grownBy w' v.ownBlock) (hloc : v'.ownBlock = v.ownBlock ∨ v'.ownBlock = some w.heap.size) : Ap B w v v' w' (l ++ [y]) := by
  refine ⟨?_, grow', hloc.imp id fun h => ⟨_, h, Nat.le_refl _⟩⟩
  have e1 : (l ++ [y]).map w8 = l.map w8 ++ [.int .u8 n] := by rw [List.map_append, hn]; rfl
  rw [e1, List.length_append]
  exact own'
/-- What put gives. -/
def Putted (B : Nat) (w : World) (v : Value) (l : List UInt8) (e : Ending) (w' : World) : Prop := ∃ v', e = .returned v' ∧ Ap B w v v' w' l
def DPut (w0 : World) (x : Wr) : Prop := ∀ (L v : Value) (p : List UInt8) (w : World), HL w0 0 L x.l → w0.grownBy w none → w.ownsRow w0.heap.size 5 1 v p.length (p.map w8) → p.length + x.enc.length ≤ 1099511627776 →
  Calls Tryd.prog 32 #[v, .agg #[.int .i64 x.k, .int .i64 x.n, .string x.s, L]] w (Putted w0.heap.size w v (p ++ x.enc))

theorem box_stays {B : Nat} {w w1 : World} {v : Value} {l : List UInt8} {cs : Array Value} {o : Obj} (h : w.ownsRow B 5 1 v l.length (l.map w8)) (k : ((w.alloc (.cells cs 24)).alloc o).grownBy w1 v.ownBlock) : w1.heap[w.heap.size]? = some (.cells cs 24 (0, 0)) :=
  (k.block _ (by simp; omega) (fun e => by have := (h.lt _ e.symm).2; omega)).trans ((Below.heap_alloc _ _ _ (by simp)).trans (heap_alloc_new w _))
theorem first_byte {B : Nat} {w w1 : World} {v v1 : Value} {l : List UInt8} {y : UInt8} {n : Int} {o1 o2 : Obj} (hn : n = (y.toNat : Int)) (own' : w1.ownsRow B 5 1 v1 (l.length + 1) (l.map w8 ++ [.int .u8 n])) (grow' : ((w.alloc o1).alloc o2).grownBy w1 v.ownBlock) (hloc : v1.ownBlock = v.ownBlock ∨ v1.ownBlock = some ((w.alloc o1).alloc o2).heap.size) : Ap B w v v1 w1 (l ++ [y]) :=
  Ap.ahead (gb_alloc (gb_alloc (gb_refl w none) o1) o2) (ap_byte hn own' grow' hloc)

theorem Ap.off {B b : Nat} {w w' : World} {v v' : Value} {l : List UInt8} (h : Ap B w v v' w' l) (hv : v.ownBlock ≠ some b) (hb : b < w.heap.size) : v'.ownBlock ≠ some b := by
  rcases h.2.2 with h2 | ⟨g, h2, hg⟩
  · rw [h2]; exact hv
  · rw [h2]; intro e; cases e; omega
theorem Ap.keeps {B b : Nat} {w w' : World} {v v' : Value} {l : List UInt8} (h : Ap B w v v' w' l) (hv : v.ownBlock ≠ some b) (hb : b < w.heap.size) : w'.heap[b]? = w.heap[b]? :=
  h.2.1.block b hb (fun e => hv e.symm)
theorem first_off {B : Nat} {w : World} {v v1 : Value} {l : List UInt8} {o1 o2 : Obj} (h : w.ownsRow B 5 1 v l.length (l.map w8)) (hloc : v1.ownBlock = v.ownBlock ∨ v1.ownBlock = some ((w.alloc o1).alloc o2).heap.size) : v1.ownBlock ≠ some w.heap.size := by
  rcases hloc with h2 | h2
  · rw [h2]; intro e; have := (h.lt _ e).2; omega
  · rw [h2]; intro e; have := Option.some.inj e; simp at this; omega

set_option maxHeartbeats 4000000 in
set_option maxRecDepth 100000 in
theorem dput_num (w0 : World) (n : Int) (s : ByteArray) (l : List Wr) : DPut w0 (.mk 1 n s l) := by
  intro L v p w hL hg hown hlen
  replace hL : HL w0 0 L l := hL
  obtain ⟨A, c, rfl⟩ := hL.slice
  rw [enc_mk, if_pos rfl] at hlen ⊢
  have hlen2 : p.length ≤ 1099511627776 := by omega
  obtain ⟨vA, vn, vc, rfl⟩ := own_slice hown
  show Calls Tryd.prog 32 #[.slice vA vn vc, .agg #[.int .i64 1, .int .i64 n, .string s, .slice A l.length c]] w _
  obtain ⟨N, HN⟩ : ∃ N : Nat, Hid (N = l.length) := ⟨_, rfl⟩
  rw [← HN.out]
  have hB : w0.heap.size ≤ w.heap.size := hg.size
  have Hown := Lib.hid hown
  have Hown1 := Lib.hid ((hown.alloc (.cells #[.int .i64 1, .int .i64 n, .string s, .slice A N c] 24)).alloc (.cells #[.int .u8 1] 5))
  have He := Lib.hid (fun w => eight_any n w)
  obtain ⟨t, ht⟩ : ∃ t : ByteArray, t = ⟨(highs n 8).toArray⟩ := ⟨_, rfl⟩
  have Ht : Hid (t.data.toList = highs n 8) := by show _ = _; rw [ht]
  have htz : t.size = 8 := by rw [ht]; simp [ByteArray.size, highs]
  rw [← ht] at He
  have Hq : Hid (UInt8.ofNat ((1 : Int) % 256).toNat :: highs n 8 = [1] ++ t.data.toList) := by show _ = _; rw [Ht.out]; rfl
  rw [Hq.out]
  obtain ⟨i, hi, hz, hs1, hs2⟩ := byte_parts
  have Hi := Lib.hid hi
  have Hz := Lib.hid hz
  have Hs1 := Lib.hid hs1
  have Hs2 := Lib.hid hs2
  clear hL hg hown hlen hi hz hs1 hs2 ht
  go_enter Tryd.func32, Tryd.ntmps32
  go_wp2_with (at_builtin; refine wpList_append_own_at _ rfl (.tmp 6) (.tmp 10) 35 rfl w0.heap.size 5 i (.int .u8 0) 1 1 Tryd.underlying35 Hi.out Hz.out Hs1.out Hs2.out rfl (by decide) _ p.length _ rfl Hown1.out ⟨w.heap.size + 1, 0, none⟩ 1 1 [.int .u8 1] rfl rfl (by have := one_byte (w.alloc (.cells #[.int .i64 1, .int .i64 n, .string s, .slice A N c] 24)) 1; simpa using this) (one_small1 1) (by simp only [maxLen]; omega) (by omega) (by simp; omega) ?_; intro v' w' own' grow' _ hloc; obtain ⟨uA, un, uc, rfl⟩ := own_slice own'; have hbx := box_stays Hown.out grow'; obtain ⟨⟨b0, b1, b2, b3⟩, _, hbl⟩ := box4 hbx; have Hap := Lib.hid (first_byte (y := 1) rfl own' grow' hloc); clear own' grow' hloc hbx)
  refine (He.out _).mono ?_
  rintro e w2 ⟨rfl, g2⟩
  have Hap2 := Lib.hid (Hap.out.more g2)
  obtain ⟨v3, w3, hrun, hap3⟩ := ap_text Hap2.out.1 t (by rw [List.length_append, htz]; simp; omega) (Nat.le_trans hB Hap2.out.2.1.size)
  have Hap3 := Lib.hid (Hap2.out.trans hap3)
  obtain ⟨qA, qn, qc, rfl⟩ := hap3.slice
  have Hrun := Lib.hid hrun
  clear hrun hap3 g2
  go_wp2_with (at_builtin; refine Lib.wpList_append_run _ rfl (.tmp 16) (.tmp 19) 35 9 rfl _ _ rfl rfl _ _ Hrun.out ?_)
  go_ret
  refine ⟨_, rfl, ?_⟩
  have := Hap3.out
  rw [List.append_assoc] at this
  exact this
set_option maxHeartbeats 4000000 in
set_option maxRecDepth 100000 in
theorem dput_text (w0 : World) (n : Int) (s : ByteArray) (l : List Wr) : DPut w0 (.mk 2 n s l) := by
  intro L v p w hL hg hown hlen
  replace hL : HL w0 0 L l := hL
  obtain ⟨A, c, rfl⟩ := hL.slice
  rw [enc_mk, if_neg (by decide), if_pos rfl] at hlen ⊢
  have hlen2 : p.length + s.size ≤ 1099511627776 := by simp at hlen; omega
  obtain ⟨vA, vn, vc, rfl⟩ := own_slice hown
  show Calls Tryd.prog 32 #[.slice vA vn vc, .agg #[.int .i64 2, .int .i64 n, .string s, .slice A l.length c]] w _
  obtain ⟨N, HN⟩ : ∃ N : Nat, Hid (N = l.length) := ⟨_, rfl⟩
  rw [← HN.out]
  have hB : w0.heap.size ≤ w.heap.size := hg.size
  have Hown := Lib.hid hown
  have Hown1 := Lib.hid ((hown.alloc (.cells #[.int .i64 2, .int .i64 n, .string s, .slice A N c] 24)).alloc (.cells #[.int .u8 2] 5))
  have He := Lib.hid (fun w => four_any s.size w)
  obtain ⟨t, ht⟩ : ∃ t : ByteArray, t = ⟨(highs s.size 4).toArray⟩ := ⟨_, rfl⟩
  have Ht : Hid (t.data.toList = highs s.size 4) := by show _ = _; rw [ht]
  have htz : t.size = 4 := by rw [ht]; show (List.toArray _).size = 4; rw [List.size_toArray, highs_len]
  rw [← ht] at He
  have Hq : Hid (UInt8.ofNat ((2 : Int) % 256).toNat :: (highs s.size 4 ++ s.data.toList) = [2] ++ t.data.toList ++ s.data.toList) := by show _ = _; rw [Ht.out]; rfl
  rw [Hq.out]
  obtain ⟨i, hi, hz, hs1, hs2⟩ := byte_parts
  have Hi := Lib.hid hi
  have Hz := Lib.hid hz
  have Hs1 := Lib.hid hs1
  have Hs2 := Lib.hid hs2
  clear hL hg hown hlen hi hz hs1 hs2 ht
  go_enter Tryd.func32, Tryd.ntmps32
  go_wp2_with (at_builtin; refine wpList_append_own_at _ rfl (.tmp 6) (.tmp 10) 35 rfl w0.heap.size 5 i (.int .u8 0) 1 1 Tryd.underlying35 Hi.out Hz.out Hs1.out Hs2.out rfl (by decide) _ p.length _ rfl Hown1.out ⟨w.heap.size + 1, 0, none⟩ 1 1 [.int .u8 2] rfl rfl (by have := one_byte (w.alloc (.cells #[.int .i64 2, .int .i64 n, .string s, .slice A N c] 24)) 2; simpa using this) (one_small1 2) (by simp only [maxLen]; omega) (by omega) (by simp; omega) ?_; intro v' w' own' grow' _ hloc; obtain ⟨uA, un, uc, rfl⟩ := own_slice own'; have hbx := box_stays Hown.out grow'; obtain ⟨⟨b0, b1, b2, b3⟩, _, hbl⟩ := box4 hbx; have Hbx := Lib.hid hbx; have Hoff := Lib.hid (first_off Hown.out hloc); have Hap := Lib.hid (first_byte (y := 2) rfl own' grow' hloc); clear own' grow' hloc hbx)
  refine (He.out _).mono ?_
  rintro e w2 ⟨rfl, g2⟩
  have Hap2 := Lib.hid (Hap.out.more g2)
  obtain ⟨v3, w3, hrun, hap3⟩ := ap_text Hap2.out.1 t (by rw [List.length_append, htz]; simp; omega) (Nat.le_trans hB Hap2.out.2.1.size)
  have Hap3 := Lib.hid (Hap2.out.trans hap3)
  have hb2 : w.heap.size < w2.heap.size := Nat.lt_of_lt_of_le hbl g2.size
  obtain ⟨⟨d0, d1, d2, d3⟩, _, hdl⟩ := box4 ((hap3.keeps Hoff.out hb2).trans ((g2.block _ hbl (by simp)).trans Hbx.out))
  obtain ⟨v4, w4, hrun4, hap4⟩ := ap_text hap3.1 s (by rw [List.length_append, List.length_append]; have : t.data.toList.length = 4 := by rw [Ht.out, highs_len]
                                                       rw [this]; simp; omega) (Nat.le_trans hB Hap3.out.2.1.size)
  have Hap4 := Lib.hid (Hap3.out.trans hap4)
  obtain ⟨qA, qn, qc, rfl⟩ := hap3.slice
  obtain ⟨rA, rn, rc, rfl⟩ := hap4.slice
  have Hrun := Lib.hid hrun
  have Hrun4 := Lib.hid hrun4
  clear hrun hap3 g2 hrun4 hap4
  go_wp2_with (at_builtin; first | refine Lib.wpList_append_run _ rfl (.tmp 23) (.tmp 27) 35 9 rfl _ _ rfl rfl _ _ Hrun.out ?_ | refine Lib.wpList_append_run _ rfl (.tmp 29) (.tmp 31) 35 9 rfl _ _ rfl rfl _ _ Hrun4.out ?_)
  go_ret
  refine ⟨_, rfl, ?_⟩
  have := Hap4.out
  rw [List.append_assoc, List.append_assoc] at this
  exact this

set_option maxHeartbeats 8000000 in
set_option maxRecDepth 100000 in
theorem dput_list (w0 : World) (n : Int) (s : ByteArray) (l : List Wr) (ih : ∀ x ∈ l, DPut w0 x) : DPut w0 (.mk 3 n s l) := by
  intro L v p w hL hg hown hlen
  replace hL : HL w0 0 L l := hL
  obtain ⟨A, c, rfl⟩ := hL.slice
  rw [enc_mk, if_neg (by decide), if_neg (by decide)] at hlen ⊢
  have hlen2 : p.length + (5 + (encs l).length) ≤ 1099511627776 := by simp [highs_len] at hlen; omega
  obtain ⟨vA, vn, vc, rfl⟩ := own_slice hown
  show Calls Tryd.prog 32 #[.slice vA vn vc, .agg #[.int .i64 3, .int .i64 n, .string s, .slice A l.length c]] w _
  obtain ⟨N, HN⟩ : ∃ N : Nat, Hid (N = l.length) := ⟨_, rfl⟩
  obtain ⟨E, HE⟩ : ∃ E : Nat, Hid (E = (encs l).length) := ⟨_, rfl⟩
  have hll := hL.len
  have Ha := Lib.hid hL
  have Hih := Lib.hid ih
  have Hg := Lib.hid hg
  rw [← HN.out] at Ha hll ⊢
  rw [← HE.out] at hlen2
  have hB : w0.heap.size ≤ w.heap.size := hg.size
  have Hown := Lib.hid hown
  have Hown1 := Lib.hid ((hown.alloc (.cells #[.int .i64 3, .int .i64 n, .string s, .slice A N c] 24)).alloc (.cells #[.int .u8 3] 5))
  have He := Lib.hid (fun w => four_any N w)
  obtain ⟨t, ht⟩ : ∃ t : ByteArray, t = ⟨(highs N 4).toArray⟩ := ⟨_, rfl⟩
  have Ht : Hid (t.data.toList = highs N 4) := by show _ = _; rw [ht]
  have htz : t.size = 4 := by rw [ht]; show (List.toArray _).size = 4; rw [List.size_toArray, highs_len]
  rw [← ht] at He
  have Hq : Hid (UInt8.ofNat ((3 : Int) % 256).toNat :: (highs N 4 ++ encs l) = [3] ++ t.data.toList ++ encs l) := by show _ = _; rw [Ht.out]; rfl
  rw [Hq.out]
  obtain ⟨i, hi, hz, hs1, hs2⟩ := byte_parts
  have Hi := Lib.hid hi
  have Hz := Lib.hid hz
  have Hs1 := Lib.hid hs1
  have Hs2 := Lib.hid hs2
  clear hL hg hown hlen hi hz hs1 hs2 ht ih
  go_enter Tryd.func32, Tryd.ntmps32
  go_wp2_with (at_builtin; refine wpList_append_own_at _ rfl (.tmp 6) (.tmp 10) 35 rfl w0.heap.size 5 i (.int .u8 0) 1 1 Tryd.underlying35 Hi.out Hz.out Hs1.out Hs2.out rfl (by decide) _ p.length _ rfl Hown1.out ⟨w.heap.size + 1, 0, none⟩ 1 1 [.int .u8 3] rfl rfl (by have := one_byte (w.alloc (.cells #[.int .i64 3, .int .i64 n, .string s, .slice A N c] 24)) 3; simpa using this) (one_small1 3) (by simp only [maxLen]; omega) (by omega) (by simp; omega) ?_; intro v' w' own' grow' _ hloc; obtain ⟨uA, un, uc, rfl⟩ := own_slice own'; have hbx := box_stays Hown.out grow'; obtain ⟨⟨b0, b1, b2, b3⟩, _, hbl⟩ := box4 hbx; have Hbx := Lib.hid hbx; have Hoff := Lib.hid (first_off Hown.out hloc); have Hap := Lib.hid (first_byte (y := 3) rfl own' grow' hloc); clear own' grow' hloc hbx)
  refine (He.out _).mono ?_
  rintro e w2 ⟨rfl, g2⟩
  have Hap2 := Lib.hid (Hap.out.more g2)
  obtain ⟨v3, w3, hrun, hap3⟩ := ap_text Hap2.out.1 t (by rw [List.length_append, htz]; simp; omega) (Nat.le_trans hB Hap2.out.2.1.size)
  have hb2 : w.heap.size < w2.heap.size := Nat.lt_of_lt_of_le hbl g2.size
  have Hbx3 := Lib.hid ((hap3.keeps Hoff.out hb2).trans ((g2.block _ hbl (by simp)).trans Hbx.out))
  have Hoff3 := Lib.hid (hap3.off Hoff.out hb2)
  have Hap3 : Hid (Ap w0.heap.size w (.slice vA vn vc) v3 w3 (p ++ ([3] ++ t.data.toList) ++ encs (l.take 0))) := by
    have := Hap2.out.trans hap3
    rw [List.take_zero, encs_nil, List.append_nil, ← List.append_assoc]
    exact this
  obtain ⟨qA, qn, qc, rfl⟩ := hap3.slice
  have Hrun := Lib.hid hrun
  clear hrun hap3 g2 b0 b1 b2 b3
  go_wp2_with (at_builtin; refine Lib.wpList_append_run _ rfl (.tmp 33) (.tmp 37) 35 9 rfl _ _ rfl rfl _ _ Hrun.out ?_)
  go_loopw [5, 0] (fun i u wr => ∃ j : Nat, j ≤ N ∧ i = .int .i64 j ∧ Hid (Ap w0.heap.size w (.slice vA vn vc) u wr (p ++ ([3] ++ t.data.toList) ++ encs (l.take j))) ∧ Hid (wr.heap[w.heap.size]? = some (.cells #[.int .i64 3, .int .i64 n, .string s, .slice A N c] 24 (0, 0))) ∧ Hid (u.ownBlock ≠ some w.heap.size)) (fun i _ _ => N - (intOf i).toNat)
  case atStart => exact ⟨0, Nat.zero_le _, rfl, Hap3, Hbx3, Hoff3⟩
  case round =>
    obtain ⟨j, hj, rfl, Hapj, Hbxj, Hoffj⟩ := hrel
    obtain ⟨⟨b0, b1, b2, b3⟩, _, hbl⟩ := box4 Hbxj.out
    obtain ⟨rA, rn, rc, rfl⟩ := Hapj.out.slice
    clear b0 b1 b2
    by_cases hlt : j < N
    · have z1 : decide (j < N) = true := decide_eq_true hlt
      obtain ⟨x, hx⟩ : ∃ x, l[j]? = some x := ⟨_, List.getElem?_eq_getElem (by rw [← HN.out]; exact hlt)⟩
      obtain ⟨g, o, A2, c', rfl, _, hgs, c0, c1, c2, c3, hxl⟩ := Ha.out.item hx
      have Hgj := Lib.hid (Hapj.out.old Hown.out Hg.out)
      have hk := Hgj.out.block g hgs (by simp)
      have e0 := (cell_of_heap (a := ⟨g, o + j * 4, none⟩) hk).trans c0
      have e1 := (cell_of_heap (a := ⟨g, o + j * 4 + 1, none⟩) hk).trans c1
      have e2 := (cell_of_heap (a := ⟨g, o + j * 4 + 2, none⟩) hk).trans c2
      have e3 := (cell_of_heap (a := ⟨g, o + j * 4 + 3, none⟩) hk).trans c3
      have Hx := Lib.hid hx
      have Hxl := Lib.hid hxl
      have Hsz := Lib.hid (encs_part l j x hx)
      clear hx hxl c0 c1 c2 c3 hk
      go_wp2_with fail
      refine (Hih.out x (List.mem_of_getElem? Hx.out) _ _ _ wr Hxl.out Hgj.out Hapj.out.1 ?_).mono ?_
      · have h1 := Hsz.out
        have h2 := HE.out
        have h3 : t.data.toList.length = 4 := by rw [Ht.out, highs_len]
        simp only [List.length_append, List.length_singleton, h3]
        omega
      rintro e w4 ⟨v4, rfl, hap4⟩
      have Hap4 : Hid (Ap w0.heap.size w (.slice vA vn vc) v4 w4 (p ++ ([3] ++ t.data.toList) ++ encs (l.take (j + 1)))) := by
        have := Hapj.out.trans hap4
        rw [encs_take l j x Hx.out, ← List.append_assoc]
        exact this
      have Hbx4 := Lib.hid ((hap4.keeps Hoffj.out hbl).trans Hbxj.out)
      have Hoff4 := Lib.hid (hap4.off Hoffj.out hbl)
      obtain ⟨yA, yn, yc, rfl⟩ := hap4.slice
      clear hap4
      go_wp2_with fail
      go_roundw
      case rel => exact ⟨j + 1, by omega, by go_num, Hap4, Hbx4, Hoff4⟩
      case measure => simp [intOf]; omega
    · have z1 : decide (j < N) = false := decide_eq_false hlt
      have Hfin : Hid (Ap w0.heap.size w (.slice vA vn vc) (.slice rA rn rc) wr (p ++ ([3] ++ t.data.toList ++ encs l))) := by
        have := Hapj.out
        rw [List.take_of_length_le (by rw [← HN.out]; omega), List.append_assoc] at this
        exact this
      clear hlt
      go_wp2_with fail
      go_ret
      exact ⟨_, rfl, Hfin.out⟩
theorem dput_any : ∀ (x : Wr) (room : Int), x.fit room = true → ∀ (w0 : World), DPut w0 x
  | .mk k n s l, room, hf, w0 => by
    obtain ⟨hk, _, h3, _, _⟩ := fit_kinds hf
    rcases hk with rfl | ⟨rfl, rfl⟩ | ⟨rfl, rfl⟩
    · exact dput_num w0 n s l
    · exact dput_text w0 n s []
    · exact dput_list w0 n ⟨#[]⟩ l (fun x hx => dput_any x (room - 1) (h3 rfl x hx) w0)
termination_by x => SizeOf.sizeOf x
decreasing_by
  have := List.sizeOf_lt_of_mem hx
  simp
  omega
end Go.Proofs.YtbammjhafgbfkaaDoor
