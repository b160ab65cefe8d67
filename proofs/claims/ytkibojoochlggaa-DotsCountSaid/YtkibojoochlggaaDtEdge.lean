/- Runs at their edges, as lists. -/
import Derived.Test.YtkibojoochlggaaDtLaw2
namespace Go.Proofs.Ytkibojoochlggaa.Dt
open Go Go.RowKit Go.Proofs.Ytkibojoochlggaa.Mm

theorem may_two {d a b c e : Int} (h1 : Ok ⟨d, a, b⟩) (h2 : Ok ⟨d, c, e⟩) (h : b + 1 < c) : May [⟨d, a, b⟩, ⟨d, c, e⟩] :=
  ⟨fun x hx => by
    rcases List.mem_cons.1 hx with hx | hx
    · rw [hx]; exact h1
    · rw [List.mem_singleton.1 hx]; exact h2, List.pairwise_cons.2 ⟨fun x hx => by rw [List.mem_singleton.1 hx]; exact .inr ⟨rfl, h⟩, List.pairwise_singleton _ _⟩⟩
theorem has_single (r : Rn) (d n : Int) : Has [r] d n ↔ In r d n := by
  rw [has_cons]
  exact ⟨fun h => h.elim id fun h => absurd h (has_nil _ _), .inl⟩
theorem has_pair (r s : Rn) (d n : Int) : Has [r, s] d n ↔ In r d n ∨ In s d n := by rw [has_cons, has_single]
theorem in_iff (e f t d n : Int) : In ⟨e, f, t⟩ d n ↔ e = d ∧ f ≤ n ∧ n ≤ t := Iff.rfl
theorem ok_iff (d f t : Int) : Ok ⟨d, f, t⟩ ↔ 0 ≤ d ∧ d < 8 ∧ 1 ≤ f ∧ f ≤ t ∧ t ≤ 4503599627370496 := Iff.rfl
theorem edge_l {d a b : Int} (h0 : 0 ≤ d) (h8 : d < 8) (ha : 1 ≤ a) (hb : a + 1 < b) (hm : b ≤ 1000) : ofR [] [(d, a), (d, b)] = [⟨d, a, a⟩, ⟨d, b, b⟩] := by
  have o1 : Ok ⟨d, a, a⟩ := ⟨h0, h8, ha, Int.le_refl _, by show a ≤ _; omega⟩
  have o2 : Ok ⟨d, b, b⟩ := ⟨h0, h8, by show 1 ≤ b; omega, Int.le_refl _, by show b ≤ _; omega⟩
  refine (is_of (may_two o1 o2 hb) fun e n => ?_).symm
  rw [has_pair, in_iff, in_iff]
  simp only [List.mem_cons, List.not_mem_nil, or_false, Prod.mk.injEq]
  constructor
  · rintro (⟨rfl, k1, k2⟩ | ⟨rfl, k1, k2⟩)
    · have : n = a := by omega
      subst this; exact ⟨.inl ⟨rfl, rfl⟩, o1⟩
    · have : n = b := by omega
      subst this; exact ⟨.inr ⟨rfl, rfl⟩, o2⟩
  · rintro ⟨⟨rfl, rfl⟩ | ⟨rfl, rfl⟩, _⟩
    · exact .inl ⟨rfl, Int.le_refl _, Int.le_refl _⟩
    · exact .inr ⟨rfl, Int.le_refl _, Int.le_refl _⟩
theorem edge_one {d n : Int} (h : Ok ⟨d, n, n⟩) : ofR [] [(d, n)] = [⟨d, n, n⟩] :=
  (is_of (one_may h) fun e m => by
    rw [has_single, in_iff, List.mem_singleton, Prod.mk.injEq]
    constructor
    · rintro ⟨rfl, k1, k2⟩
      have : m = n := by omega
      subst this; exact ⟨⟨rfl, rfl⟩, h⟩
    · rintro ⟨⟨rfl, rfl⟩, _⟩; exact ⟨rfl, Int.le_refl _, Int.le_refl _⟩).symm
theorem edge_m0 {d a : Int} (h0 : 0 ≤ d) (h8 : d < 8) (ha : 1 ≤ a) (hm : a ≤ 1000) : unionR [⟨d, a, a⟩, ⟨d, a + 2, a + 2⟩] [⟨d, a + 1, a + 1⟩] = [⟨d, a, a + 2⟩] := by
  have o1 : Ok ⟨d, a, a⟩ := ⟨h0, h8, ha, Int.le_refl _, by show a ≤ _; omega⟩
  have o2 : Ok ⟨d, a + 2, a + 2⟩ := ⟨h0, h8, by show 1 ≤ a + 2; omega, Int.le_refl _, by show a + 2 ≤ _; omega⟩
  have o3 : Ok ⟨d, a + 1, a + 1⟩ := ⟨h0, h8, by show 1 ≤ a + 1; omega, Int.le_refl _, by show a + 1 ≤ _; omega⟩
  have o4 : Ok ⟨d, a, a + 2⟩ := ⟨h0, h8, ha, by show a ≤ a + 2; omega, by show a + 2 ≤ _; omega⟩
  refine (is_union (may_two o1 o2 (by omega)) (one_may o3) (one_may o4) fun e n => ?_).symm
  rw [has_pair, has_single, has_single]
  simp only [in_iff]
  omega
theorem edge_m1 {d a b : Int} (h0 : 0 ≤ d) (h8 : d < 8) (ha : 1 ≤ a) (hb : a + 2 < b) (hm : b ≤ 1000) : unionR [⟨d, a, a⟩, ⟨d, b, b⟩] [⟨d, a + 1, a + 1⟩] = [⟨d, a, a + 1⟩, ⟨d, b, b⟩] := by
  have o1 : Ok ⟨d, a, a⟩ := ⟨h0, h8, ha, Int.le_refl _, by show a ≤ _; omega⟩
  have o2 : Ok ⟨d, b, b⟩ := ⟨h0, h8, by show 1 ≤ b; omega, Int.le_refl _, by show b ≤ _; omega⟩
  have o3 : Ok ⟨d, a + 1, a + 1⟩ := ⟨h0, h8, by show 1 ≤ a + 1; omega, Int.le_refl _, by show a + 1 ≤ _; omega⟩
  have o4 : Ok ⟨d, a, a + 1⟩ := ⟨h0, h8, ha, by show a ≤ a + 1; omega, by show a + 1 ≤ _; omega⟩
  refine (is_union (may_two o1 o2 (by omega)) (one_may o3) (may_two o4 o2 (by omega)) fun e n => ?_).symm
  rw [has_pair, has_pair, has_single]
  simp only [in_iff]
  omega
theorem edge_far {d : Int} (h0 : 0 ≤ d) (h8 : d < 8) : ofR [] [(d, 4503599627370496), (d, 4503599627370497), (d, 0), (8, 1), (-1, 1)] = [⟨d, 4503599627370496, 4503599627370496⟩] := by
  have o1 : Ok ⟨d, 4503599627370496, 4503599627370496⟩ := ⟨h0, h8, by show (1 : Int) ≤ 4503599627370496; decide, Int.le_refl _, Int.le_refl _⟩
  refine (is_of (one_may o1) fun e n => ?_).symm
  rw [has_single, in_iff, ok_iff]
  simp only [List.mem_cons, List.not_mem_nil, or_false, Prod.mk.injEq]
  constructor
  · rintro ⟨rfl, k1, k2⟩
    have : n = 4503599627370496 := by omega
    subst this
    exact ⟨.inl ⟨rfl, rfl⟩, h0, h8, by decide, by decide, by decide⟩
  · rintro ⟨⟨rfl, rfl⟩ | ⟨rfl, rfl⟩ | ⟨rfl, rfl⟩ | ⟨rfl, rfl⟩ | ⟨rfl, rfl⟩, k1, k2, k3, k4, k5⟩
    · exact ⟨rfl, by decide, by decide⟩
    all_goals (exfalso; omega)
theorem last_one {d a b : Int} (h : 0 ≤ b) : lastR d [⟨d, a, b⟩] 0 = b := by
  show lastR d [] (if d = d then max 0 b else 0) = b
  rw [if_pos rfl]; show max 0 b = b; omega
theorem last_two {d a b c e : Int} (h : b ≤ e) (h0 : 0 ≤ b) : lastR d [⟨d, a, b⟩, ⟨d, c, e⟩] 0 = e := by
  show lastR d [] (if d = d then max (if d = d then max 0 b else 0) e else _) = e
  rw [if_pos rfl, if_pos rfl]; show max (max 0 b) e = e; omega
theorem last_no {d f a b : Int} (h : d ≠ f) : lastR f [⟨d, a, b⟩] 0 = 0 := last_none fun r hr => by rw [List.mem_singleton.1 hr]; exact h
theorem dl_five (w : World) (x0 y0 x1 y1 x2 y2 x3 y3 x4 y4 : Int) (t : TypeId) : DL (w.alloc (.cells #[.int .i64 x0, .int .i64 y0, .int .i64 x1, .int .i64 y1, .int .i64 x2, .int .i64 y2, .int .i64 x3, .int .i64 y3, .int .i64 x4, .int .i64 y4] t)) (some ⟨w.heap.size, 0, none⟩) 5 [(x0, y0), (x1, y1), (x2, y2), (x3, y3), (x4, y4)] := by
  have hr := Row.new w t #[.int .i64 x0, .int .i64 y0, .int .i64 x1, .int .i64 y1, .int .i64 x2, .int .i64 y2, .int .i64 x3, .int .i64 y3, .int .i64 x4, .int .i64 y4]
  refine ⟨rfl, fun _ => ⟨w.heap.size, 0, rfl, hr.lt, fun i r h => ?_⟩⟩
  have hi : i = 0 ∨ i = 1 ∨ i = 2 ∨ i = 3 ∨ i = 4 := by have := (List.getElem?_eq_some_iff.1 h).1; simp at this; omega
  rcases hi with rfl | rfl | rfl | rfl | rfl
  · obtain rfl : (x0, y0) = r := by simpa using h
    exact ⟨hr.at_ (i := 0) rfl, hr.at_ (i := 1) rfl⟩
  · obtain rfl : (x1, y1) = r := by simpa using h
    exact ⟨hr.at_ (i := 2) rfl, hr.at_ (i := 3) rfl⟩
  · obtain rfl : (x2, y2) = r := by simpa using h
    exact ⟨hr.at_ (i := 4) rfl, hr.at_ (i := 5) rfl⟩
  · obtain rfl : (x3, y3) = r := by simpa using h
    exact ⟨hr.at_ (i := 6) rfl, hr.at_ (i := 7) rfl⟩
  · obtain rfl : (x4, y4) = r := by simpa using h
    exact ⟨hr.at_ (i := 8) rfl, hr.at_ (i := 9) rfl⟩
end Go.Proofs.Ytkibojoochlggaa.Dt
