/- The document's read of a list; read, GetWire. -/
import Derived.Test.YtbammjhafgbfkaaDoorVRefN
namespace Go.Proofs.YtbammjhafgbfkaaDoor
open Go.RowKit Wd Mm Vw

abbrev Off2 (B : Nat) (v : Value) (g : Nat) : Prop := B ≤ g ∧ some g ≠ v.ownBlock
theorem HP.after2 {w w' : World} {B : Nat} {u u' v : Value} {l : List Wr} (h : HP w (Off2 B u) v l) (hg : w.grownBy w' u.ownBlock) (ha : u'.ownBlock = u.ownBlock ∨ u'.ownBlock = some w.heap.size) : HP w' (Off2 B u') v l := by
  refine h.keep hg.size (fun g hP hl => ⟨hg.block g hl hP.2, hP.1, ?_⟩)
  rcases ha with e | e
  · rw [e]; exact hP.2
  · rw [e]; intro e2; have := Option.some.inj e2; omega
theorem HP.set1 {w : World} {B b i : Nat} {u v x : Value} {l : List Wr} (h : HP w (Off2 B u) v l) (hb : b < B) : HP (w.setCell ⟨b, i, none⟩ x) (Off2 B u) v l :=
  h.keep (by simp [World.setCell]) (fun g hP _ => ⟨heap_setCell_other _ _ _ _ (by have := hP.1; simp only [ne_eq]; omega), hP⟩)
theorem Own.set1 {w : World} {B b i : Nat} {v x : Value} {ps : List (Wr × Value)} (h : Own B v ps w) (hb : b < B) : Own B v ps (w.setCell ⟨b, i, none⟩ x) := by
  refine World.ownsRow.kept h (gb_set1 w b i x) (.inr fun e => ?_)
  have := (h.lt b e).1
  omega
theorem cells4' (w : World) (g : Nat) (hg : w.heap.size = g) (a0 a1 a2 a3 : Value) : ∀ (j : Nat) (u : Value), [a0, a1, a2, a3][j]? = some u → (w.alloc (.cells #[a0, a1, a2, a3] 24)).cell? ((⟨g, 0, none⟩ : Addr).add j) = some u := by
  subst hg; exact cells4 w a0 a1 a2 a3
theorem box5 {w : World} {b : Nat} {a0 a1 a2 a3 a4 : Value} {T : TypeId} (h : w.heap[b]? = some (.cells #[a0, a1, a2, a3, a4] T (0, 0))) :
    (w.cell? ⟨b, 0, none⟩ = some a0 ∧ w.cell? ⟨b, 1, none⟩ = some a1 ∧ w.cell? ⟨b, 2, none⟩ = some a2 ∧ w.cell? ⟨b, 3, none⟩ = some a3 ∧ w.cell? ⟨b, 4, none⟩ = some a4) ∧
    (w.frozen? ⟨b, 0, none⟩ = false ∧ w.frozen? ⟨b, 1, none⟩ = false ∧ w.frozen? ⟨b, 2, none⟩ = false ∧ w.frozen? ⟨b, 3, none⟩ = false ∧ w.frozen? ⟨b, 4, none⟩ = false) ∧ b < w.heap.size :=
  ⟨⟨cell_of_row w b 0 _ _ _ h, cell_of_row w b 1 _ _ _ h, cell_of_row w b 2 _ _ _ h, cell_of_row w b 3 _ _ _ h, cell_of_row w b 4 _ _ _ h⟩, ⟨frozen_of_row w b 0 _ _ h, frozen_of_row w b 1 _ _ h, frozen_of_row w b 2 _ _ h, frozen_of_row w b 3 _ _ h, frozen_of_row w b 4 _ _ h⟩, (Array.getElem?_eq_some_iff.1 h).1⟩
theorem set5_row {w : World} {g : Nat} {x0 x1 x2 x3 x4 : Value} {T : TypeId} (h : w.heap[g]? = some (.cells #[x0, x1, x2, x3, x4] T (0, 0))) (v0 v1 v2 v3 v4 : Value) :
    (((((w.setCell ⟨g, 0, none⟩ v0).setCell ⟨g, 1, none⟩ v1).setCell ⟨g, 2, none⟩ v2).setCell ⟨g, 3, none⟩ v3).setCell ⟨g, 4, none⟩ v4).heap[g]? = some (.cells #[v0, v1, v2, v3, v4] T (0, 0)) :=
  heap_setCell_same _ g 4 _ _ _ (heap_setCell_same _ g 3 _ _ _ (heap_setCell_same _ g 2 _ _ _ (heap_setCell_same _ g 1 _ _ _ (heap_setCell_same w g 0 _ _ _ h))))
theorem gb_new5 {a w : World} {g : Nat} (hg : a.heap.size ≤ g) {v0 v1 v2 v3 v4 : Value} (h : a.grownBy w none) : a.grownBy (((((w.setCell ⟨g, 0, none⟩ v0).setCell ⟨g, 1, none⟩ v1).setCell ⟨g, 2, none⟩ v2).setCell ⟨g, 3, none⟩ v3).setCell ⟨g, 4, none⟩ v4) none :=
  gb_new (gb_new4 hg h) (gb_set1 _ _ _ _) hg
/-- As Own.list, all blocks from C on. -/
theorem Own.listAt {B C : Nat} {v : Value} {ps : List (Wr × Value)} {w : World} (h : Own B v ps w) (hn : ps.length ≤ 1099511627776) (hCB : C ≤ B) (hp : ∀ p ∈ ps, HL w C p.2 p.1.l) : HL w C v (ps.map Prod.fst) := by
  have hcells := fun (g : Nat) (hg : v.ownBlock = some g) => World.ownsRow.cells h hg
  rcases h.2 with ⟨rfl, h0⟩ | ⟨g, cap, cur, rfl, hB, hg, _⟩
  · rw [List.length_eq_zero_iff.1 h0]; exact .nil _ _
  · have hc : ∀ j u, (flat ps)[j]? = some u → w.cell? ⟨g, 0 + j, none⟩ = some u := fun j u hu => by
      have := hcells g rfl j u hu
      have hadd : (⟨g, 0, none⟩ : Addr).add j = ⟨g, 0 + j, none⟩ := by unfold Addr.add; split <;> simp_all
      rwa [hadd] at this
    have hl : (ps.map Prod.fst).length = ps.length := List.length_map _
    have key : ∀ (i : Nat) (x : Wr), (ps.map Prod.fst)[i]? = some x → ∃ p : Wr × Value, ps[i]? = some p ∧ p.1 = x := fun i x hx => by
      rw [List.getElem?_map] at hx
      obtain ⟨p, h1, h2⟩ := Option.map_eq_some_iff.1 hx
      exact ⟨p, h1, h2⟩
    rw [← hl]
    refine .row g 0 cap _ (fun i => match ps[i]? with | some p => p.2 | none => .nilIface) (by omega) (Array.getElem?_eq_some_iff.1 hg).1 (by rw [hl]; exact hn) ?_ ?_ ?_ ?_ ?_
    · intro i x hx; obtain ⟨p, h1, rfl⟩ := key i x hx; exact hc _ _ (flat_get ps i p h1).1
    · intro i x hx; obtain ⟨p, h1, rfl⟩ := key i x hx; exact hc _ _ (flat_get ps i p h1).2.1
    · intro i x hx; obtain ⟨p, h1, rfl⟩ := key i x hx; exact hc _ _ (flat_get ps i p h1).2.2.1
    · intro i x hx; obtain ⟨p, h1, rfl⟩ := key i x hx; simp only [h1]; exact hc _ _ (flat_get ps i p h1).2.2.2
    · intro i x hx; obtain ⟨p, h1, rfl⟩ := key i x hx; simp only [h1]; exact hp p (List.mem_of_getElem? h1)
theorem HP.listAt {w : World} {P : Nat → Prop} {C : Nat} {v : Value} {l : List Wr} (h : HP w P v l) (hP : ∀ g, P g → C ≤ g) : HL w C v l := by
  induction h with
  | nil A c => exact .nil A c
  | row g o c l L hB hg hn hk hv hs hL hl ih => exact .row g o c l L (hP g hB) hg hn hk hv hs hL ih
/-- What read does, where so many lists may still stand in one another. -/
def RefReads (s : ByteArray) (ρ : Int) (f : List UInt8 → Option (Wr × List UInt8)) : Prop := ∀ (at_ : Nat) (w : World), at_ ≤ s.size →
  (f (s.data.toList.drop at_) = none → Calls Tryd.prog 36 #[.string s, .int .i64 (at_ : Int), .int .i64 ρ] w (ReadBad w)) ∧
  (∀ x t, f (s.data.toList.drop at_) = some (x, t) → Calls Tryd.prog 36 #[.string s, .int .i64 (at_ : Int), .int .i64 ρ] w (ReadGot x (s.size - t.length) w))
/-- What is left is the end of what there was. -/
def Suffix (f : List UInt8 → Option (Wr × List UInt8)) : Prop := ∀ s x t, f s = some (x, t) → ∃ p, s = p ++ t ∧ 5 ≤ p.length
theorem rd_suffix (R : Nat) : Suffix (rd R) := fun s x t h => by
  have h1 := (rd_back R s x t h).1
  have h2 := rd_len R s x t h
  refine ⟨x.enc, h1, ?_⟩
  rw [h1, List.length_append] at h2
  omega
def ReadRes (s : ByteArray) (R : Option (List Wr × List UInt8)) (w : World) (e : Ending) (w' : World) : Prop := match R with
  | none => ReadBad w e w'
  | some p => ReadGot (lst p.1) (s.size - p.2.length) w e w'
set_option maxHeartbeats 16000000 in
set_option maxRecDepth 100000 in
theorem read_list (s : ByteArray) (at_ : Nat) (R : Int) (w : World) (hs : s.size ≤ 1099511627776) (hl : at_ + 5 ≤ s.size) (hk : (s[at_]'(by omega)).toNat = 3) (hN : beN ((s.data.toList.drop (at_ + 1)).take 4) ≤ 65536) (hR1 : 1 ≤ R) (hR2 : R ≤ 100)
    (f : List UInt8 → Option (Wr × List UInt8)) (hsuf : Suffix f) (ih : RefReads s (R - 1) f) (Q : Option (List Wr × List UInt8)) (hQ : rds f (beN ((s.data.toList.drop (at_ + 1)).take 4)) (s.data.toList.drop (at_ + 5)) = Q) :
    Calls Tryd.prog 36 #[.string s, .int .i64 (at_ : Int), .int .i64 R] w (ReadRes s Q w) := by
  have d1 : decide ((s.size : Int) < (at_ : Int) + 5) = false := decide_eq_false (by omega)
  have hat : at_ < s.size := by omega
  have hk1 : ((s[at_]'hat).toNat : Int) = 3 := by omega
  obtain ⟨N, HN⟩ : ∃ N, Hid (beN ((s.data.toList.drop (at_ + 1)).take 4) = N) := ⟨_, rfl⟩
  have hn := fun W => number_ref s (at_ + 1) 4 W (by decide) (by omega) hs
  rw [four_nat, HN.out] at hn
  have Hn := Lib.hid hn
  rw [HN.out] at hN hQ
  have d2 : decide (65536 < (N : Int)) = false := decide_eq_false (by omega)
  have d3 : decide (R < 1) = false := decide_eq_false (by omega)
  have HQ := Lib.hid hQ
  have Hih := Lib.hid ih
  have Hsuf := Lib.hid hsuf
  obtain ⟨iW, hi, hz, hs4, hb56⟩ := wire_parts
  have Hi := Lib.hid hi
  have Hz := Lib.hid hz
  have Hs4 := Lib.hid hs4
  have Hb56 := Lib.hid hb56
  clear hk hn hQ ih hsuf hi hz hs4 hb56
  go_enter Tryd.func36, Tryd.ntmps36
  go_wp2_with fail
  refine (Hn.out _).mono ?_
  rintro e w2 ⟨rfl, rfl⟩
  go_wp2_with fail
  clear d1 d2 d3 hk1
  go_loopw [9, 10] (fun nx i wr => ∃ (k next : Nat) (ps : List (Wr × Value)) (v : Value), k ≤ N ∧ i = .int .i64 k ∧ nx = .int .i64 (next : Int) ∧ next ≤ s.size ∧ Hid (rds f N (s.data.toList.drop (at_ + 5)) = (rds f (N - k) (s.data.toList.drop next)).map fun p => (ps.map Prod.fst ++ p.1, p.2)) ∧ Hid (Own (w.heap.size + 2) v ps wr) ∧ Hid (ps.length = k) ∧ Hid (∀ p ∈ ps, HP wr (Off2 (w.heap.size + 2) v) p.2 p.1.l) ∧
    Hid (wr.heap[w.heap.size]? = some (.cells #[.int .i64 0, .int .i64 0, .string ⟨#[]⟩, .slice none 0 0, .int .i64 0] 65 (0, 0))) ∧ Hid (wr.heap[w.heap.size + 1]? = some (.cells #[.int .i64 3, .int .i64 0, .string ⟨#[]⟩, v] 24 (0, 0))) ∧ Hid (w.grownBy wr none)) (fun _ i _ => N - (intOf i).toNat)
  case atStart =>
    refine ⟨0, at_ + 5, [], .slice none 0 0, Nat.zero_le _, rfl, by go_num, hl, ?_, Own.nil _ _, rfl, (by intro p hp; cases hp), ?_, ?_, gb_alloc (gb_alloc (gb_refl _ _) _) _⟩
    · show _ = _; simp
    · exact (Below.heap_alloc _ _ w.heap.size (by simp)).trans (heap_alloc_new w _)
    · show _ = _
      have := heap_alloc_new (w.alloc (.cells #[.int .i64 0, .int .i64 0, .string ⟨#[]⟩, .slice none 0 0, .int .i64 0] 65)) (.cells #[.int .i64 3, .int .i64 0, .string ⟨#[]⟩, .slice none 0 0] 24)
      simpa using this
  case round =>
    obtain ⟨k, next, ps, v, hk, rfl, rfl, hnx, Hq, Ho, Hl, Hps, Hrow, Hbox, Hg⟩ := hrel
    obtain ⟨A, c, rfl⟩ := Ho.out.slice
    by_cases hlt : k < N
    · have dz : decide (k < N) = true := decide_eq_true hlt
      have Hone := Lib.hid (Hih.out next wr hnx)
      obtain ⟨m, Hm⟩ : ∃ m : Nat, Hid (N - k = m + 1) := ⟨N - k - 1, by show _ = _; omega⟩
      have Hq2 : Hid (rds f N (s.data.toList.drop (at_ + 5)) = (rds f (m + 1) (s.data.toList.drop next)).map fun p => (ps.map Prod.fst ++ p.1, p.2)) := by
        show _ = _
        rw [Hq.out, Hm.out]
      clear Hq
      obtain ⟨fu, Hfu⟩ : ∃ fu, Hid (f (s.data.toList.drop next) = fu) := ⟨_, rfl⟩
      cases fu with
      | none =>
        have Hbad := Lib.hid (Hone.out.1 Hfu.out)
        have HRn : Hid (Q = none) := by
          show _ = _
          rw [← HQ.out, Hq2.out, rds_none Hfu.out]; rfl
        clear Hone Hq2 Hfu
        go_wp2_with fail
        refine Hbad.out.mono ?_
        rintro e w4 ⟨rfl, g4⟩
        have Hrow4 := Lib.hid (row_kept Hrow.out g4)
        obtain ⟨⟨b0, b1, b2, b3, b4⟩, ⟨f0, f1, f2, f3, f4⟩, hbl⟩ := box5 Hrow4.out
        have Hg4 := Lib.hid (gb_none Hg.out g4)
        clear g4
        go_wp2_with fail
        obtain ⟨⟨q0, q1, q2, q3, q4⟩, _, _⟩ := box5 ((Below.heap_alloc _ (.cells #[.int .i64 0, .int .i64 0, .string ⟨#[]⟩, .slice none 0 0, .int .i64 (-1)] 65) w.heap.size (by simp [World.setCell]; omega)).trans (set5_row Hrow4.out (.int .i64 0) (.int .i64 0) (.string ⟨#[]⟩) (.slice none 0 0) (.int .i64 (-1))))
        refine bodyPost_ret (v := .agg #[.int .i64 0, .int .i64 0, .string ⟨#[]⟩, .slice none 0 0, .int .i64 (-1)]) (by simp [results, Tryd.results36, go_sem, q0, q1, q2, q3, q4]) rfl ?_
        unfold ReadRes
        rw [HRn.out]
        exact ⟨rfl, gb_alloc (gb_new5 (Nat.le_refl _) Hg4.out) _⟩
      | some q =>
        obtain ⟨x, u'⟩ := q
        have Hgood := Lib.hid (Hone.out.2 x u' Hfu.out)
        obtain ⟨p, hp1, hp2⟩ := Hsuf.out _ _ _ Hfu.out
        have hlen : s.size = next + p.length + u'.length := by
          have := congrArg List.length hp1
          rw [List.length_drop, List.length_append] at this
          simp only [Array.length_toList] at this
          have e : s.data.size = s.size := rfl
          omega
        obtain ⟨nx2, hnx2⟩ : ∃ nx2 : Nat, nx2 = s.size - u'.length := ⟨_, rfl⟩
        have hnx3 : nx2 = next + p.length := by omega
        have hnx4 : nx2 ≤ s.size := by omega
        have Hdrop : Hid (s.data.toList.drop nx2 = u') := by
          show _ = _
          rw [hnx3, ← List.drop_drop, hp1, List.drop_left]
        rw [← hnx2] at Hgood
        have Hq3 : Hid (rds f N (s.data.toList.drop (at_ + 5)) = (rds f (N - (k + 1)) (s.data.toList.drop nx2)).map fun p => ((ps ++ [(x, Value.nilIface)]).map Prod.fst ++ p.1, p.2)) := by
          show _ = _
          rw [Hq2.out, rds_some Hfu.out, Option.map_map, Hdrop.out, show N - (k + 1) = m by have := Hm.out; omega]
          congr 1
          funext p
          simp
        clear Hone Hq2 Hfu hnx2 hnx3 hp1 hp2 hlen Hdrop
        have dn : decide ((nx2 : Int) < 0) = false := decide_eq_false (by omega)
        go_wp2_with fail
        refine Hgood.out.mono ?_
        rintro e w4 ⟨A', c', rfl, hx4, g4⟩
        have Hg4 := Lib.hid (gb_none Hg.out g4)
        have Hbox4 := Lib.hid (row_kept Hbox.out g4)
        have Hrow4 := Lib.hid (row_kept Hrow.out g4)
        have Hx4 := Lib.hid hx4
        have Hps4 : Hid (∀ p ∈ ps, HP w4 (Off2 (w.heap.size + 2) (.slice A ps.length c)) p.2 p.1.l) := fun p hp => (Hps.out p hp).kept g4
        have Hol := Lib.hid (fun i e => (Ho.out.lt i e).2)
        have Ho4 := Lib.hid ((Ho.out.kept g4).kept (gb_alloc (gb_alloc (gb_refl w4 none) (.cells #[.int .i64 x.k, .int .i64 x.n, .string x.s, .slice A' x.l.length c', .int .i64 nx2] 65)) (.cells #[.int .i64 x.k, .int .i64 x.n, .string x.s, .slice A' x.l.length c'] 24)))
        obtain ⟨⟨b0, b1, b2, b3⟩, ⟨f0, f1, f2, f3⟩, hbl⟩ := box4 Hbox4.out
        have hwr : w.heap.size + 1 < wr.heap.size := (Array.getElem?_eq_some_iff.1 Hbox.out).1
        have hk5 : k ≤ 65536 := by omega
        have hw4 : w.heap.size + 1 < w4.heap.size := hbl
        have H7 : Hid (((w4.alloc (.cells #[.int .i64 x.k, .int .i64 x.n, .string x.s, .slice A' x.l.length c', .int .i64 nx2] 65)).alloc (.cells #[.int .i64 x.k, .int .i64 x.n, .string x.s, .slice A' x.l.length c'] 24)).heap[w.heap.size + 1]? = some (.cells #[.int .i64 3, .int .i64 0, .string ⟨#[]⟩, .slice A ps.length c] 24 (0, 0))) := row_kept Hbox4.out (gb_alloc (gb_alloc (gb_refl _ _) _) _)
        have H11 : Hid (((w4.alloc (.cells #[.int .i64 x.k, .int .i64 x.n, .string x.s, .slice A' x.l.length c', .int .i64 nx2] 65)).alloc (.cells #[.int .i64 x.k, .int .i64 x.n, .string x.s, .slice A' x.l.length c'] 24)).heap[w4.heap.size]? = some (.cells #[.int .i64 x.k, .int .i64 x.n, .string x.s, .slice A' x.l.length c', .int .i64 nx2] 65 (0, 0))) := (Below.heap_alloc _ _ w4.heap.size (by simp)).trans (heap_alloc_new w4 _)
        have Hne7 : Hid (some (w.heap.size + 1) ≠ (Value.slice A ps.length c).ownBlock) := fun e => by have := (Ho.out.lt _ e.symm).1; omega
        have Hne11 : Hid (some w4.heap.size ≠ (Value.slice A ps.length c).ownBlock) := fun e => by have := Hol.out _ e.symm; have := g4.size; omega
        clear g4 hx4
        go_wp2_with (at_builtin; refine wpList_append_own_at _ rfl (.tmp 107) (.tmp 110) 22 rfl (w.heap.size + 2) 24 iW (.agg #[.int .i64 0, .int .i64 0, .string ⟨#[]⟩, .slice none 0 0]) 4 56 Tryd.underlying22 Hi.out Hz.out Hs4.out Hb56.out rfl (by decide) _ ps.length _ rfl Ho4.out ⟨w4.heap.size + 1, 0, none⟩ 1 1 [.int .i64 x.k, .int .i64 x.n, .string x.s, .slice A' x.l.length c'] rfl rfl (cells4' _ _ (by simp) _ _ _ _) (one4 _ _ _ _ _ _) (by have := Hl.out; simp only [maxLen]; omega) (by have := Hl.out; omega) (by simp; omega) ?_; intro v' w' own' grow' _ hat; obtain ⟨vA, vn, vc, rfl⟩ := own_slice4 own'; have hr7 := (grow'.block (w.heap.size + 1) (by simp; omega) Hne7.out).trans H7.out; have hr11 := (grow'.block w4.heap.size (by simp; omega) Hne11.out).trans H11.out; have c7 := cell_of_row w' (w.heap.size + 1) 3 _ _ _ hr7; have f7 := frozen_of_row w' (w.heap.size + 1) 3 _ _ hr7; have c11 := cell_of_row w' w4.heap.size 4 _ _ _ hr11)
        have Hown' : Hid (Own (w.heap.size + 2) (.slice vA vn vc) (ps ++ [(x, .slice A' x.l.length c')]) w') := by
          show World.ownsRow _ _ _ _ _ _ _
          rw [flat_snoc, List.length_append]
          exact own'
        have Hset := Lib.hid (heap_setCell_same w' (w.heap.size + 1) 3 _ _ (.slice vA vn vc) hr7)
        have Hgw' : Hid (w.grownBy w' none) := gb_step (gb_alloc (gb_alloc Hg4.out _) _) grow' (fun i e => .inr (by have := (Ho4.out.lt i e).1; omega))
        have Hrow' : Hid (w'.heap[w.heap.size]? = some (.cells #[.int .i64 0, .int .i64 0, .string ⟨#[]⟩, .slice none 0 0, .int .i64 0] 65 (0, 0))) :=
          (grow'.block w.heap.size (by simp; omega) (fun e => by have := (Ho.out.lt _ e.symm).1; omega)).trans (row_kept Hrow4.out (gb_alloc (gb_alloc (gb_refl _ _) _) _))
        have Hps' : Hid (∀ p ∈ ps ++ [(x, Value.slice A' x.l.length c')], HP w' (Off2 (w.heap.size + 2) (.slice vA vn vc)) p.2 p.1.l) := by
          intro p hp
          rcases List.mem_append.1 hp with hp | hp
          · exact HP.after2 ((Hps4.out p hp).kept (gb_alloc (gb_alloc (gb_refl _ _) _) _)) grow' hat
          · rw [List.mem_singleton.1 hp]
            refine HP.after2 (u := .slice A ps.length c) ?_ grow' hat
            refine (HP.of Hx4.out).keep (by simp; omega) (fun g hB hl => ⟨(Below.heap_alloc _ _ g (by simp; omega)).trans (Below.heap_alloc w4 _ g hl), by omega, fun e => ?_⟩)
            have := Hol.out g e.symm
            omega
        clear own' grow' hat hr7 hr11 b0 b1 b2 b3 f0 f1 f2 f3
        go_roundw
        case rel =>
          refine ⟨k + 1, nx2, ps ++ [(x, .slice A' x.l.length c')], .slice vA vn vc, by omega, by go_num, rfl, hnx4, ?_, Lib.hid (Hown'.out.set1 (by omega)), ?_, ?_, ?_, Hset, Lib.hid (gb_new Hgw'.out (gb_set1 _ _ _ _) (by omega))⟩
          · have := Hq3.out
            show _ = _
            rw [this]
            simp
          · show _ = _; rw [List.length_append, Hl.out]; rfl
          · exact fun p hp => (Hps'.out p hp).set1 (by omega)
          · exact (heap_setCell_other _ _ _ _ (by simp)).trans Hrow'.out
        case measure => simp [intOf]; omega
    · have dz : decide (k < N) = false := decide_eq_false hlt
      have Hk : Hid (k = N) := by show _ = _; omega
      have Hh := Lib.hid (Ho.out.listAt (by have := Hl.out; omega) (C := w.heap.size + 2) (Nat.le_refl _) (fun p hp => (Hps.out p hp).listAt (fun g hg => hg.1)))
      have HQs : Hid (Q = some (ps.map Prod.fst, s.data.toList.drop next)) := by
        show _ = _
        rw [← HQ.out, Hq.out, Hk.out, Nat.sub_self]; simp [rds]
      have Hnx : Hid (s.size - (s.data.toList.drop next).length = next) := by
        show _ = _
        rw [List.length_drop]
        have e : s.data.toList.length = s.size := by simp
        omega
      obtain ⟨⟨b0, b1, b2, b3⟩, _, _⟩ := box4 Hbox.out
      obtain ⟨⟨r0, r1, r2, r3, r4⟩, ⟨f0, f1, f2, f3, f4⟩, _⟩ := box5 Hrow.out
      clear hlt
      go_wp2_with fail
      obtain ⟨⟨q0, q1, q2, q3, q4⟩, _, _⟩ := box5 (set5_row Hrow.out (.int .i64 3) (.int .i64 0) (.string ⟨#[]⟩) (.slice A ps.length c) (.int .i64 (next : Int)))
      refine bodyPost_ret (v := .agg #[.int .i64 3, .int .i64 0, .string ⟨#[]⟩, .slice A ps.length c, .int .i64 (next : Int)]) (by simp [results, Tryd.results36, go_sem, q0, q1, q2, q3, q4]) rfl ?_
      unfold ReadRes
      rw [HQs.out]
      have hle : ((lst (ps.map Prod.fst)).l).length = ps.length := List.length_map _
      refine ⟨A, c, ?_, ?_, gb_new5 (Nat.le_refl _) Hg.out⟩
      · rw [Hnx.out, hle]; rfl
      · rw [hle]
        refine (Hh.out.grown (gb_then (gb_then (gb_then (gb_then (gb_set1 _ w.heap.size _ _) (gb_set1 _ _ _ _)) (gb_set1 _ _ _ _)) (gb_set1 _ _ _ _)) (gb_set1 _ _ _ _)) (fun m e => ?_)).low (by omega)
        cases e; omega
end Go.Proofs.YtbammjhafgbfkaaDoor
