/- deaddroplaw4.Make: some wire, in new memory. -/
import Derived.Test.YtbammjhafgbfkaaDoorVOwn
import Derived.Outline
import Derived.Maps.AppendAt
namespace Go.Proofs.YtbammjhafgbfkaaDoor
open Go.RowKit Wd Mm Vw

theorem lst_len (xs : List Wr) : (lst xs).enc.length = 5 + (encs xs).length := by
  unfold lst; rw [enc_mk, if_neg (by decide), if_neg (by decide), List.length_cons, List.length_append, highs_len]; omega
theorem encs_snoc (xs : List Wr) (x : Wr) : (encs (xs ++ [x])).length = (encs xs).length + x.enc.length := by
  induction xs with
  | nil => simp [encs_cons, encs_nil]
  | cons y r ih => simp only [List.cons_append, encs_cons, List.length_append, ih]; omega
theorem allIn_of : ∀ xs : List Wr, (∀ x ∈ xs, x.in64 = true) → allIn xs = true
  | [], _ => allIn_nil
  | x :: r, h => by
    rw [allIn_cons, h x List.mem_cons_self, allIn_of r (fun y hy => h y (List.mem_cons_of_mem _ hy))]; rfl
theorem lst_in (xs : List Wr) (h : ∀ x ∈ xs, x.in64 = true) : (lst xs).in64 = true := by
  unfold lst; rw [in64_mk, allIn_of xs h]; rfl
theorem wrap_range (n : Int) : -9223372036854775808 ≤ wrap64 n ∧ wrap64 n ≤ 9223372036854775807 := by unfold wrap64; omega
/-- As HL, all blocks being such ones. -/
inductive HP (w : World) (P : Nat → Prop) : Value → List Wr → Prop
  | nil (A : Option Addr) (c : Nat) : HP w P (.slice A 0 c) []
  | row (g o c : Nat) (l : List Wr) (L : Nat → Value) (hB : P g) (hg : g < w.heap.size) (hn : l.length ≤ 1099511627776)
      (hk : ∀ i x, l[i]? = some x → w.cell? ⟨g, o + i * 4, none⟩ = some (.int .i64 x.k))
      (hv : ∀ i x, l[i]? = some x → w.cell? ⟨g, o + i * 4 + 1, none⟩ = some (.int .i64 x.n))
      (hs : ∀ i x, l[i]? = some x → w.cell? ⟨g, o + i * 4 + 2, none⟩ = some (.string x.s))
      (hL : ∀ i x, l[i]? = some x → w.cell? ⟨g, o + i * 4 + 3, none⟩ = some (L i))
      (hl : ∀ i x, l[i]? = some x → HP w P (L i) x.l) : HP w P (.slice (some ⟨g, o, none⟩) l.length c) l
theorem HP.keep {w w' : World} {P Q : Nat → Prop} {v : Value} {l : List Wr} (h : HP w P v l) (hsz : w.heap.size ≤ w'.heap.size) (hb : ∀ g, P g → g < w.heap.size → w'.heap[g]? = w.heap[g]? ∧ Q g) : HP w' Q v l := by
  induction h with
  | nil A c => exact .nil A c
  | row g o c l L hB hg hn hk hv hs hL hl ih =>
    obtain ⟨he, hq⟩ := hb g hB hg
    refine .row g o c l L hq (Nat.lt_of_lt_of_le hg hsz) hn ?_ ?_ ?_ ?_ ih
    · intro i x hx; rw [cell_of_heap he]; exact hk i x hx
    · intro i x hx; rw [cell_of_heap he]; exact hv i x hx
    · intro i x hx; rw [cell_of_heap he]; exact hs i x hx
    · intro i x hx; rw [cell_of_heap he]; exact hL i x hx
theorem HP.list {w : World} {P : Nat → Prop} {v : Value} {l : List Wr} (h : HP w P v l) : HL w 0 v l := by
  induction h with
  | nil A c => exact .nil A c
  | row g o c l L hB hg hn hk hv hs hL hl ih => exact .row g o c l L (Nat.zero_le _) hg hn hk hv hs hL ih
theorem HP.of {w : World} {B : Nat} {v : Value} {l : List Wr} (h : HL w B v l) : HP w (fun g => B ≤ g) v l := by
  induction h with
  | nil A c => exact .nil A c
  | row g o c l L hB hg hn hk hv hs hL hl ih => exact .row g o c l L hB hg hn hk hv hs hL ih
/-- The block of a row's value is not among the list's. -/
abbrev Off (v : Value) (g : Nat) : Prop := some g ≠ v.ownBlock
theorem HP.kept {w w' : World} {P : Nat → Prop} {v : Value} {l : List Wr} (h : HP w P v l) (hg : w.grownBy w' none) : HP w' P v l := h.keep hg.size (fun g hP hl => ⟨hg.block g hl (by simp), hP⟩)
theorem HP.after {w w' : World} {u u' v : Value} {l : List Wr} (h : HP w (Off u) v l) (hg : w.grownBy w' u.ownBlock) (ha : u'.ownBlock = u.ownBlock ∨ u'.ownBlock = some w.heap.size) : HP w' (Off u') v l := by
  refine h.keep hg.size (fun g hP hl => ⟨hg.block g hl hP, ?_⟩)
  show some g ≠ u'.ownBlock
  rcases ha with e | e
  · rw [e]; exact hP
  · rw [e]; intro e2; have := Option.some.inj e2; omega
/-- Some wire, in memory. -/
def Made (w : World) (N : Nat) (e : Ending) (w' : World) : Prop := ∃ (x : Wr) (A : Option Addr) (c : Nat), e = .returned (.agg #[.int .i64 x.k, .int .i64 x.n, .string x.s, .slice A x.l.length c]) ∧ HL w' w.heap.size (.slice A x.l.length c) x.l ∧ x.in64 = true ∧ x.enc.length ≤ N ∧ w.grownBy w' none
theorem result_row {w w2 : World} (hg : (w.alloc (.cells #[.int .i64 0, .int .i64 0, .string ⟨#[]⟩, .slice none 0 0] 24)).grownBy w2 none) : w2.heap[w.heap.size]? = some (.cells #[.int .i64 0, .int .i64 0, .string ⟨#[]⟩, .slice none 0 0] 24 (0, 0)) := row_kept (heap_alloc_new w _) hg
set_option maxHeartbeats 2000000 in
theorem make_none (a : Option Addr) (cap : Nat) (s : ByteArray) (w : World) : Calls Tryd.prog 20 #[.slice a 0 cap, .string s] w (Made w 5) := by
  go_enter Tryd.func20, Tryd.ntmps20
  go_wp2_with fail
  refine (list_any [] (.slice none 0 0) _ (.nil _ _)).mono ?_
  rintro e w2 ⟨A, c, rfl, hl, g2⟩
  have Hrow := Lib.hid (result_row g2)
  obtain ⟨⟨b0, b1, b2, b3⟩, ⟨f0, f1, f2, f3⟩, hbl⟩ := box4 Hrow.out
  have Hg2 := Lib.hid (gb_none (gb_alloc (gb_refl w none) _) g2)
  clear hl g2
  go_wp2_with fail
  obtain ⟨⟨q0, q1, q2, q3⟩, _, _⟩ := box4 (set4_row Hrow.out (.int .i64 3) (.int .i64 0) (.string ⟨#[]⟩) (.slice A 0 c))
  refine bodyPost_ret (v := .agg #[.int .i64 3, .int .i64 0, .string ⟨#[]⟩, .slice A 0 c]) (by simp [results, Tryd.results20, go_sem, q0, q1, q2, q3]) rfl ?_
  exact ⟨lst [], A, c, rfl, .nil _ _, by decide, by decide, gb_new4 (Nat.le_refl _) Hg2.out⟩
set_option maxHeartbeats 2000000 in
theorem make_num (g o len cap b : Nat) (s : ByteArray) (w : World) (hb : b ≤ 255) (h0 : 0 < len) (hl : len ≤ 9223372036854775807) (h3 : (b : Int) % 3 = 0) (hg : g < w.heap.size) (hc : w.cell? ⟨g, o, none⟩ = some (.int .u8 (b : Int))) :
    Calls Tryd.prog 20 #[.slice (some ⟨g, o, none⟩) len cap, .string s] w (Made w 9) := by
  have t1 : ((len : Int) == 0) = false := by simp; omega
  go_enter Tryd.func20, Tryd.ntmps20
  go_wp2_with fail
  obtain ⟨V, HV⟩ : ∃ V : Int, Hid (wrap64 (wrap64 (wrap64 (((b : Int) - 100) * b) * b) * 65537) = V) := ⟨_, rfl⟩
  have hVr : -9223372036854775808 ≤ V ∧ V ≤ 9223372036854775807 := by rw [← HV.out]; exact wrap_range _
  rw [HV.out]
  refine (num_any V _).mono ?_
  rintro e w2 ⟨rfl, g2⟩
  have Hrow := Lib.hid (result_row g2)
  obtain ⟨⟨b0, b1, b2, b3⟩, ⟨f0, f1, f2, f3⟩, hbl⟩ := box4 Hrow.out
  have Hg2 := Lib.hid (gb_none (gb_alloc (gb_refl w none) _) g2)
  have HVr := Lib.hid hVr
  clear g2 hVr
  go_wp2_with fail
  obtain ⟨⟨q0, q1, q2, q3⟩, _, _⟩ := box4 (set4_row Hrow.out (.int .i64 1) (.int .i64 V) (.string ⟨#[]⟩) (.slice none 0 0))
  refine bodyPost_ret (v := .agg #[.int .i64 1, .int .i64 V, .string ⟨#[]⟩, .slice none 0 0]) (by simp [results, Tryd.results20, go_sem, q0, q1, q2, q3]) rfl ?_
  exact ⟨num V, none, 0, rfl, .nil _ _, num_in V HVr.out, by rw [num_len]; exact Nat.le_refl _, gb_new4 (Nat.le_refl _) Hg2.out⟩
set_option maxHeartbeats 2000000 in
theorem make_text (g o len cap b : Nat) (s : ByteArray) (w : World) (hb : b ≤ 255) (h0 : 0 < len) (hl : len ≤ 9223372036854775807) (hs : s.size ≤ 80) (h3 : (b : Int) % 3 = 1) (hg : g < w.heap.size) (hc : w.cell? ⟨g, o, none⟩ = some (.int .u8 (b : Int))) :
    Calls Tryd.prog 20 #[.slice (some ⟨g, o, none⟩) len cap, .string s] w (Made w 85) := by
  have t1 : ((len : Int) == 0) = false := by simp; omega
  obtain ⟨m, hm⟩ : ∃ m : Nat, min (s.size : Int) ((b : Int) / 3) = (m : Int) := ⟨(min (s.size : Int) ((b : Int) / 3)).toNat, by omega⟩
  have hm2 : m ≤ s.size := by omega
  go_enter Tryd.func20, Tryd.ntmps20
  go_wp2_with fail
  refine (text_any (s.extract 0 m) _).mono ?_
  rintro e w2 ⟨rfl, g2⟩
  have Hrow := Lib.hid (result_row g2)
  obtain ⟨⟨b0, b1, b2, b3⟩, ⟨f0, f1, f2, f3⟩, hbl⟩ := box4 Hrow.out
  have Hg2 := Lib.hid (gb_none (gb_alloc (gb_refl w none) _) g2)
  obtain ⟨u, hu⟩ : ∃ u, u = s.extract 0 m := ⟨_, rfl⟩
  have Hu : Hid (u.size ≤ 80) := by show _ ≤ _; rw [hu, ByteArray.size_extract]; omega
  rw [← hu]
  clear g2 hu hm
  go_wp2_with fail
  obtain ⟨⟨q0, q1, q2, q3⟩, _, _⟩ := box4 (set4_row Hrow.out (.int .i64 2) (.int .i64 0) (.string u) (.slice none 0 0))
  refine bodyPost_ret (v := .agg #[.int .i64 2, .int .i64 0, .string u, .slice none 0 0]) (by simp [results, Tryd.results20, go_sem, q0, q1, q2, q3]) rfl ?_
  exact ⟨txt u, none, 0, rfl, .nil _ _, txt_in u, by rw [txt_len]; have := Hu.out; omega, gb_new4 (Nat.le_refl _) Hg2.out⟩
/-- Bytes that came in, from a place on. -/
theorem Held8.part {w : World} {g o len : Nat} (h : Held8 w (some ⟨g, o, none⟩) len) (h0 : 0 < len) (i m : Nat) (hi : i + m ≤ len) : Held8 w (some ⟨g, o + i, none⟩) m := fun hm => by
  obtain ⟨g', o', e, hl, hc⟩ := h h0
  cases e
  refine ⟨g, o + i, rfl, hl, fun j hj => ?_⟩
  obtain ⟨b, hb, hc'⟩ := hc (i + j) (by omega)
  exact ⟨b, hb, by rw [Nat.add_assoc]; exact hc'⟩
set_option maxHeartbeats 8000000 in
set_option maxRecDepth 100000 in
theorem make_list (g o len cap b N : Nat) (s : ByteArray) (w : World) (hb : b ≤ 255) (h0 : 0 < len) (hl : len ≤ 30) (hlc : len ≤ cap) (hcap : cap ≤ 9223372036854775807) (h3 : (b : Int) % 3 = 2) (hH : Held8 w (some ⟨g, o, none⟩) len) (hg : g < w.heap.size) (hc : w.cell? ⟨g, o, none⟩ = some (.int .u8 (b : Int)))
    (ih : ∀ (i m c : Nat) (w : World), 1 ≤ i → i + m ≤ len → m ≤ 5 → m ≤ c → c ≤ 9223372036854775807 → Held8 w (some ⟨g, o + i, none⟩) m → Calls Tryd.prog 20 #[.slice (some ⟨g, o + i, none⟩) m c, .string s] w (Made w N)) :
    Calls Tryd.prog 20 #[.slice (some ⟨g, o, none⟩) len cap, .string s] w (Made w (5 + 4 * N)) := by
  have t1 : ((len : Int) == 0) = false := by simp; omega
  obtain ⟨e4, he, he4⟩ : ∃ e : Nat, (b : Int) / 3 % 5 = (e : Int) ∧ e ≤ 4 := ⟨((b : Int) / 3 % 5).toNat, by omega, by omega⟩
  obtain ⟨f4, hf, hf4⟩ : ∃ f : Nat, (b : Int) / 15 % 5 = (f : Int) ∧ f ≤ 4 := ⟨((b : Int) / 15 % 5).toNat, by omega, by omega⟩
  obtain ⟨iW, hi, hz, hs4, hb56⟩ := wire_parts
  have Hi := Lib.hid hi
  have Hz := Lib.hid hz
  have Hs4 := Lib.hid hs4
  have Hb56 := Lib.hid hb56
  have HH := Lib.hid hH
  have Hih := Lib.hid ih
  clear hi hz hs4 hb56 hH ih
  go_enter Tryd.func20, Tryd.ntmps20
  go_wp2_with fail
  clear t1 hc h3
  go_loopw [6, 7] (fun all i wr => ∃ (k : Nat) (ps : List (Wr × Value)), 1 ≤ k ∧ k ≤ e4 + 1 ∧ i = .int .i64 k ∧ Hid (Own (w.heap.size + 1) all ps wr) ∧ Hid (ps.length + 1 = k) ∧ Hid ((encs (ps.map Prod.fst)).length ≤ (k - 1) * N) ∧ Hid (∀ p ∈ ps, HP wr (Off all) p.2 p.1.l ∧ p.1.in64 = true) ∧ Hid ((w.alloc (.cells #[.int .i64 0, .int .i64 0, .string ⟨#[]⟩, .slice none 0 0] 24)).grownBy wr none)) (fun _ i _ => 6 - (intOf i).toNat)
  case atStart => exact ⟨1, [], Nat.le_refl _, by omega, rfl, Own.nil _ _, rfl, (by show _ ≤ _; rw [List.map_nil, encs_nil]; simp), (by intro p hp; cases hp), gb_refl _ _⟩
  case round =>
    rename_i u6
    obtain ⟨k, ps, hk1, hk2, rfl, Ho, Hl, Hen, Hps, Hg⟩ := hrel
    by_cases hgo : k < len ∧ k ≤ e4
    · obtain ⟨hlt, hle⟩ := hgo
      have dz : decide (k < len) = true := decide_eq_true hlt
      have dz2 : decide ((k : Int) ≤ (e4 : Int)) = true := decide_eq_true (by omega)
      have dz3 : decide (k ≤ e4) = true := decide_eq_true hle
      obtain ⟨M, hM⟩ : ∃ M : Nat, min (len : Int) ((k : Int) + (f4 : Int) + 1) = (M : Int) := ⟨(min (len : Int) ((k : Int) + (f4 : Int) + 1)).toNat, by omega⟩
      have hM1 : k ≤ M := by omega
      have hM2 : M ≤ len := by omega
      have hM3 : M - k ≤ 5 := by omega
      have hM4 : M ≤ cap := by omega
      have hkc : k < cap := by omega
      have hgw := gb_none (gb_alloc (gb_refl w none) _) Hg.out
      have Hgw := Lib.hid hgw
      have Hsub := Lib.hid ((HH.out.keep hgw).part h0 k (M - k) (by omega))
      clear hgw
      go_wp2_with fail
      refine (Hih.out k (M - k) (cap - k) wr hk1 (by omega) hM3 (by omega) (by omega) Hsub.out).mono ?_
      rintro e w2 ⟨x, A2, c2, rfl, hx, hin, hen, g2⟩
      have Hx := Lib.hid hx
      have Hin := Lib.hid hin
      have Hen2 := Lib.hid hen
      have Hg2 := Lib.hid (gb_none Hg.out g2)
      have Ho2 := Lib.hid ((Ho.out.kept g2).kept (gb_alloc (gb_refl _ _) (.cells #[.int .i64 x.k, .int .i64 x.n, .string x.s, .slice A2 x.l.length c2] 24)))
      have Hps2 : Hid (∀ p ∈ ps, HP w2 (Off u6) p.2 p.1.l ∧ p.1.in64 = true) := fun p hp => ⟨((Hps.out p hp).1).kept g2, (Hps.out p hp).2⟩
      have Hol := Lib.hid (fun i e => (Ho.out.lt i e).2)
      have hgs : w.heap.size ≤ w2.heap.size := (gb_none Hgw.out g2).size
      clear g2 hx hin hen dz2 dz3 hM
      go_wp2_with (at_builtin; refine wpList_append_own_at _ rfl (.tmp 51) (.tmp 66) 22 rfl (w.heap.size + 1) 24 iW (.agg #[.int .i64 0, .int .i64 0, .string ⟨#[]⟩, .slice none 0 0]) 4 56 Tryd.underlying22 Hi.out Hz.out Hs4.out Hb56.out rfl (by decide) _ ps.length _ rfl Ho2.out ⟨w2.heap.size, 0, none⟩ 1 1 [.int .i64 x.k, .int .i64 x.n, .string x.s, .slice A2 x.l.length c2] rfl rfl (cells4 _ _ _ _ _) (one4 _ _ _ _ _ _) (by have := Hl.out; simp only [maxLen]; omega) (by have := Hl.out; omega) (by simp; omega) ?_; intro v' w' own' grow' _ hat; obtain ⟨vA, vn, vc, rfl⟩ := own_slice4 own')
      have Hown : Hid (Own (w.heap.size + 1) (.slice vA vn vc) (ps ++ [(x, .slice A2 x.l.length c2)]) w') := by
        show World.ownsRow _ _ _ _ _ _ _
        rw [flat_snoc, List.length_append]
        exact own'
      have Hg3 : Hid ((w.alloc (.cells #[.int .i64 0, .int .i64 0, .string ⟨#[]⟩, .slice none 0 0] 24)).grownBy w' none) :=
        gb_step (gb_alloc Hg2.out _) grow' (fun i e => .inr (by have := (Ho2.out.lt i e).1; simp; omega))
      have Hps3 : Hid (∀ p ∈ ps ++ [(x, Value.slice A2 x.l.length c2)], HP w' (Off (.slice vA vn vc)) p.2 p.1.l ∧ p.1.in64 = true) := by
        intro p hp
        rcases List.mem_append.1 hp with hp | hp
        · exact ⟨HP.after (((Hps2.out p hp).1).kept (gb_alloc (gb_refl _ _) _)) grow' hat, (Hps2.out p hp).2⟩
        · rw [List.mem_singleton.1 hp]
          refine ⟨HP.after (u := u6) ?_ grow' hat, Hin.out⟩
          refine (HP.of Hx.out).keep (by simp) (fun g hB hl => ⟨Below.heap_alloc w2 _ g hl, fun e => ?_⟩)
          have := Hol.out g e.symm
          omega
      have Hen3 : Hid ((encs ((ps ++ [(x, Value.slice A2 x.l.length c2)]).map Prod.fst)).length ≤ (k + 1 - 1) * N) := by
        show _ ≤ _
        rw [List.map_append, List.map_singleton, encs_snoc]
        have h1 := Hen.out
        have h2 := Hen2.out
        obtain ⟨j, rfl⟩ : ∃ j, k = j + 1 := ⟨k - 1, by omega⟩
        simp only [Nat.add_sub_cancel] at h1 ⊢
        rw [Nat.add_mul]
        omega
      clear own' grow' hat
      go_roundw
      case rel => exact ⟨k + 1, ps ++ [(x, .slice A2 x.l.length c2)], by omega, by omega, by go_num, Hown, (by show _ = _; rw [List.length_append]; have := Hl.out; simp; omega), Hen3, Hps3, Hg3⟩
      case measure => simp [intOf]; omega
    · have Hgw := Lib.hid (gb_none (gb_alloc (gb_refl w none) _) Hg.out)
      have Hrow := Lib.hid (result_row Hg.out)
      obtain ⟨A, c, rfl⟩ := Ho.out.slice
      have Hh := Lib.hid (Ho.out.list (by have := Hl.out; omega) (fun p hp => ((Hps.out p hp).1).list))
      have Hlin : Hid ((lst (ps.map Prod.fst)).in64 = true) := lst_in _ (fun x hx => by
        obtain ⟨p, hp, rfl⟩ := List.mem_map.1 hx
        exact (Hps.out p hp).2)
      have Hlen5 : Hid ((lst (ps.map Prod.fst)).enc.length ≤ 5 + 4 * N) := by
        show _ ≤ _
        rw [lst_len]
        have h1 := Hen.out
        have h2 : (k - 1) * N ≤ 4 * N := Nat.mul_le_mul_right _ (by omega)
        omega
      obtain ⟨xs, hxs⟩ : ∃ xs, xs = ps.map Prod.fst := ⟨_, rfl⟩
      rw [← hxs] at Hh Hlin Hlen5
      clear hxs
      have key : (decide (k < len) = false) ∨ (decide (k < len) = true ∧ decide ((k : Int) ≤ (e4 : Int)) = false ∧ decide (k ≤ e4) = false) := by
        by_cases h : k < len
        · right
          exact ⟨decide_eq_true h, decide_eq_false (by omega), decide_eq_false (by omega)⟩
        · left; exact decide_eq_false h
      clear hgo
      rcases key with k1 | ⟨k1, k2, k3⟩
      all_goals
        go_wp2_with fail
        refine (list_any xs _ wr Hh.out).mono ?_
        rintro e w2 ⟨A2, c2, rfl, hl2, g2⟩
        have Hrow2 := Lib.hid (row_kept Hrow.out g2)
        obtain ⟨⟨b0, b1, b2, b3⟩, ⟨f0, f1, f2, f3⟩, hbl⟩ := box4 Hrow2.out
        have Hg2 := Lib.hid (gb_none Hgw.out g2)
        have Hl2 := Lib.hid hl2
        have hwr : w.heap.size < wr.heap.size := (Array.getElem?_eq_some_iff.1 Hrow.out).1
        clear g2 hl2
        go_wp2_with fail
        obtain ⟨⟨q0, q1, q2, q3⟩, _, _⟩ := box4 (set4_row Hrow2.out (.int .i64 3) (.int .i64 0) (.string ⟨#[]⟩) (.slice A2 xs.length c2))
        refine bodyPost_ret (v := .agg #[.int .i64 3, .int .i64 0, .string ⟨#[]⟩, .slice A2 xs.length c2]) (by simp [results, Tryd.results20, go_sem, q0, q1, q2, q3]) rfl ?_
        refine ⟨lst xs, A2, c2, rfl, ?_, Hlin.out, Hlen5.out, gb_new4 (Nat.le_refl _) Hg2.out⟩
        refine (Hl2.out.grown (gb_then (gb_then (gb_then (gb_set1 _ w.heap.size _ _) (gb_set1 _ _ _ _)) (gb_set1 _ _ _ _)) (gb_set1 _ _ _ _)) (fun m e => ?_)).low (by omega)
        cases e; omega
/-- How many bytes there may be of a wire by so many numbers. -/
def bnd (m : Nat) : Nat := 100 * 5 ^ (min m 6)
theorem bnd_le {a b : Nat} (h : a ≤ b) : bnd a ≤ bnd b := Nat.mul_le_mul_left _ (Nat.pow_le_pow_right (by decide) (by omega))
theorem bnd_pos (m : Nat) : 100 ≤ bnd m := by
  have : 0 < 5 ^ (min m 6) := Nat.pow_pos (by decide)
  unfold bnd; omega
theorem bnd_step (m : Nat) (hm : 0 < m) : 5 + 4 * bnd (min (m - 1) 5) ≤ bnd m := by
  have h1 := bnd_pos (min (m - 1) 5)
  have e : bnd m = 5 * bnd (min (m - 1) 5) := by
    unfold bnd
    rw [show min m 6 = min (min (m - 1) 5) 6 + 1 by omega, Nat.pow_succ]
    omega
  omega
theorem Made.more {w w' : World} {N N' : Nat} {e : Ending} (h : Made w N e w') (hN : N ≤ N') : Made w N' e w' := by
  obtain ⟨x, A, c, h1, h2, h3, h4, h5⟩ := h
  exact ⟨x, A, c, h1, h2, h3, by omega, h5⟩
theorem make_any (s : ByteArray) (hs : s.size ≤ 80) : ∀ (n m : Nat), m ≤ n → m ≤ 30 → ∀ (a : Option Addr) (c : Nat) (w : World), m ≤ c → c ≤ 9223372036854775807 → Held8 w a m →
    Calls Tryd.prog 20 #[.slice a m c, .string s] w (Made w (bnd m)) := by
  intro n
  induction n with
  | zero =>
    intro m hm _ a c w _ _ _
    obtain rfl : m = 0 := by omega
    exact (make_none a c s w).mono fun _ _ h => h.more (by have := bnd_pos 0; omega)
  | succ n ih =>
    intro m hm h30 a c w hmc hc hH
    by_cases h0 : m = 0
    · subst h0
      exact (make_none a c s w).mono fun _ _ h => h.more (by have := bnd_pos 0; omega)
    have hp := bnd_pos m
    obtain ⟨g, o, rfl, hg, hcell⟩ := hH (by omega)
    obtain ⟨b, hb, hc0⟩ := hcell 0 (by omega)
    rw [Nat.add_zero] at hc0
    have h3 : (b : Int) % 3 = 0 ∨ (b : Int) % 3 = 1 ∨ (b : Int) % 3 = 2 := by omega
    rcases h3 with h3 | h3 | h3
    · exact (make_num g o m c b s w hb (by omega) (by omega) h3 hg hc0).mono fun _ _ h => h.more (by omega)
    · exact (make_text g o m c b s w hb (by omega) (by omega) hs h3 hg hc0).mono fun _ _ h => h.more (by omega)
    · refine (make_list g o m c b (bnd (min (m - 1) 5)) s w hb (by omega) h30 hmc hc h3 hH hg hc0 ?_).mono fun _ _ h => h.more (bnd_step m (by omega))
      intro i m' c' w' hi him hm5 hmc' hc' hH'
      exact (ih m' (by omega) (by omega) _ c' w' hmc' hc' hH').mono fun _ _ h => h.more (bnd_le (by omega))
end Go.Proofs.YtbammjhafgbfkaaDoor
