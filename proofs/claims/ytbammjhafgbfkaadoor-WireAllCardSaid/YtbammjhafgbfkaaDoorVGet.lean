/- The reader at bytes of any form; whole, Get. -/
import Derived.Test.YtbammjhafgbfkaaDoorVWire
namespace Go.Proofs.YtbammjhafgbfkaaDoor
open Go.RowKit Wd Mm Vw

set_option maxHeartbeats 4000000 in
set_option maxRecDepth 100000 in
theorem wire_shortnum (ρ : Int) (D r : Nat) (t : List UInt8) (w : World) (h : Rd r (1 :: t) w) (hl : t.length ≤ 1099511627776) (h8 : t.length < 8) :
    Calls Tryd.prog 46 #[.pointer (some ⟨r, 0, none⟩), .int .i64 ρ] w (WireBad r D w) := by
  have hrl := h.lt
  have Hn := Lib.hid (kind_taken r 1 t (w.alloc (.cells #[.int .i64 0, .int .i64 0, .string ⟨#[]⟩, .slice none 0 0] 24)) (h.alloc _) hl 1 (by decide))
  clear h
  go_enter Tryd.func46, Tryd.ntmps46
  go_wp2_with fail
  refine Hn.out.mono ?_
  rintro e w2 ⟨rfl, hr, hg⟩
  have Hrow := Lib.hid (box_read (heap_alloc_new w _) hg (by omega))
  have hb4 := (Array.getElem?_eq_some_iff.1 Hrow.out).1
  obtain ⟨⟨b0, b1, b2, b3⟩, ⟨f0, f1, f2, f3⟩, hb⟩ := box4 Hrow.out
  have Hg := Lib.hid (gb_step (gb_none' (r := some r) (gb_alloc (gb_refl w none) (.cells #[.int .i64 0, .int .i64 0, .string ⟨#[]⟩, .slice none 0 0] 24))) hg (fun i e => .inl e))
  have Hcall := Lib.hid (number_short r 8 t (w2.alloc (.cells #[.int .i64 1, .int .i64 0, .string ⟨#[]⟩, .slice none 0 0] 24)) (hr.alloc _) h8)
  clear hr hg
  go_wp2_with fail
  refine Hcall.out.mono ?_
  rintro e w3 ⟨rfl, rfl⟩
  go_wp2_with fail
  obtain ⟨⟨q0, q1, q2, q3⟩, _, _⟩ := box4 ((Below.heap_alloc _ (.cells #[.int .i64 1, .int .i64 0, .string ⟨#[]⟩, .slice none 0 0] 24) w.heap.size (by simp [World.setCell]; omega)).trans (set4_row Hrow.out (.int .i64 1) (.int .i64 0) (.string ⟨#[]⟩) (.slice none 0 0)))
  refine bodyPost_ret (v := .tuple #[.agg #[.int .i64 1, .int .i64 0, .string ⟨#[]⟩, .slice none 0 0], .iface 62 (.int .i64 1)]) (by simp [results, Tryd.results46, go_sem, q0, q1, q2, q3]) rfl ?_
  exact ⟨1, 0, _, none, 0, 0, _, 0, 1, rfl, .flt 1, by decide, Nat.zero_le _, gb_alloc (gb_some4 Hg.out (Nat.le_refl _)) _⟩

/-- A list, by what is known of one wire less deep; or where no list may stand. -/
def Lists (ρ : Int) (D : Nat) (sub : Option (List UInt8 → Option (Wr × List UInt8))) : Prop := ∀ (r : Nat) (t : List UInt8) (w : World), Rd r t w → t.length ≤ 1099511627776 →
  (sub.bind (fun f => rdL f t) = none → Calls Tryd.prog 53 #[.pointer (some ⟨r, 0, none⟩), .int .i64 ρ] w (ListBad r D w)) ∧
  (∀ l t', sub.bind (fun f => rdL f t) = some (.mk 3 0 ⟨#[]⟩ l, t') → Calls Tryd.prog 53 #[.pointer (some ⟨r, 0, none⟩), .int .i64 ρ] w (ListGot r l t' w))
theorem ListBad.more {r D D' : Nat} {w w' : World} {e : Ending} (h : ListBad r D w e w') (hD : D ≤ D') : ListBad r D' w e w' := by
  obtain ⟨er, d, k, h1, h2, h3, h4, h5⟩ := h
  exact ⟨er, d, k, h1, h2, h3, by omega, h5⟩
theorem WireBad.more {r D D' : Nat} {w w' : World} {e : Ending} (h : WireBad r D w e w') (hD : D ≤ D') : WireBad r D' w e w' := by
  obtain ⟨k, n, s, A, len, c, er, d, f, h1, h2, h3, h4, h5⟩ := h
  exact ⟨k, n, s, A, len, c, er, d, f, h1, h2, h3, by omega, h5⟩
theorem lists_zero : Lists 0 0 none := fun r t w _ _ => ⟨fun _ => list_zero r w, fun l t' h => by cases h⟩
theorem lists_some (ρ : Int) (hρ : 1 ≤ ρ) (hρ2 : ρ ≤ 100) (D : Nat) (f : List UInt8 → Option (Wr × List UInt8)) (hf : ∀ s x t, f s = some (x, t) → t.length + 5 ≤ s.length) (ih : ReadsOne (ρ - 1) D f) : Lists ρ (D + 1) (some f) := by
  intro r t w h hl
  have hlen := fun l t' => rds_len hf (beN (t.take 4)) (t.drop 4) l t'
  by_cases h4 : t.length < 4
  · refine ⟨fun _ => list_early ρ hρ (D + 1) r t w h hl (.inl h4), fun l t' hs => ?_⟩
    rw [Option.bind_some] at hs
    have := (rdL_some hs).1
    omega
  by_cases hm : 65536 < beN (t.take 4)
  · refine ⟨fun _ => list_early ρ hρ (D + 1) r t w h hl (.inr (.inl hm)), fun l t' hs => ?_⟩
    rw [Option.bind_some] at hs
    have := (rdL_some hs).2.1
    omega
  have he : rdL f t = (rds f (beN (t.take 4)) (t.drop 4)).map fun p => (.mk 3 0 ⟨#[]⟩ p.1, p.2) := by
    unfold rdL; rw [if_neg h4, if_neg hm]
  by_cases ho : (t.drop 4).length < 5 * beN (t.take 4)
  · refine ⟨fun _ => list_early ρ hρ (D + 1) r t w h hl (.inr (.inr ho)), fun l t' hs => ?_⟩
    rw [Option.bind_some, he] at hs
    obtain ⟨⟨l2, t2⟩, hq, _⟩ := Option.map_eq_some_iff.1 hs
    have := (hlen l2 t2 hq).1
    omega
  have hgo := list_goes ρ hρ hρ2 D r f hf ih t w h hl (by omega) (by omega) (by omega)
  refine ⟨fun hn => ?_, fun l t' hs => ?_⟩
  · rw [Option.bind_some, he, Option.map_eq_none_iff] at hn
    exact hgo none hn
  · rw [Option.bind_some, he] at hs
    obtain ⟨⟨l2, t2⟩, hq, hx⟩ := Option.map_eq_some_iff.1 hs
    simp only [Prod.mk.injEq, Wr.mk.injEq, true_and] at hx
    obtain ⟨rfl, rfl⟩ := hx
    exact hgo (some (l2, t2)) hq
theorem reads_of (ρ : Int) (D : Nat) (sub : Option (List UInt8 → Option (Wr × List UInt8))) (hL : Lists ρ D sub) : ReadsOne ρ D (rdB sub) := by
  intro r t w h hl
  cases t with
  | nil => exact ⟨fun _ => wire_empty ρ D r w h, fun x t' hs => by cases hs⟩
  | cons k t =>
    have hl' : t.length ≤ 1099511627776 := by simp only [List.length_cons] at hl; omega
    rw [rdB]
    by_cases h1 : k = 1
    · subst h1
      rw [if_pos rfl]
      refine ⟨fun hn => ?_, fun x t' hs => ?_⟩
      · refine wire_shortnum ρ D r t w h hl' ?_
        unfold rdN at hn
        by_cases h8 : t.length < 8
        · exact h8
        · rw [if_neg h8] at hn; cases hn
      · obtain ⟨h8, rfl, rfl⟩ := rdN_some hs
        exact wire_num ρ r t w h hl' h8
    rw [if_neg h1]
    by_cases h2 : k = 2
    · subst h2
      rw [if_pos rfl]
      refine ⟨fun hn => wire_badtext ρ D r t w h hl' hn, fun x t' hs => ?_⟩
      obtain ⟨_, _, _, rfl, _⟩ := rdT_some hs
      exact wire_text ρ r t w h hl' _ t' hs
    rw [if_neg h2]
    by_cases h3 : k = 3
    · subst h3
      rw [if_pos rfl]
      refine ⟨fun hn => wire_badlist ρ D r t w h hl' (fun w' hr => (hL r t w' hr hl').1 hn), fun x t' hs => ?_⟩
      obtain ⟨f, hf, hq⟩ := Option.bind_eq_some_iff.1 hs
      obtain ⟨_, _, l, _, rfl⟩ := rdL_some hq
      exact wire_list ρ r t w h hl' l t' (fun w' hr => (hL r t w' hr hl').2 l t' hs)
    · rw [if_neg h3]
      exact ⟨fun _ => wire_nokind ρ D r k t w h hl' h1 h2 h3, fun x t' hs => by cases hs⟩
theorem reads_any : ∀ R : Nat, R ≤ 100 → ReadsOne (R : Int) R (rd R) := by
  intro R
  induction R with
  | zero => intro _; exact reads_of 0 0 none lists_zero
  | succ R ih =>
    intro hR
    refine reads_of _ (R + 1) (some (rd R)) (lists_some _ (by omega) (by omega) R (rd R) (rd_len R) ?_)
    have e : ((R + 1 : Nat) : Int) - 1 = (R : Int) := by omega
    rw [e]
    exact ih (by omega)

/-- What all of the bytes say. -/
def get (s : List UInt8) : Option Wr := match rd 6 s with
  | some (x, []) => some x
  | _ => none
/-- whole: a wire; or an error. -/
def WholeGot (x : Wr) (w : World) (e : Ending) (w' : World) : Prop := ∃ A c, e = .returned (.tuple #[.agg #[.int .i64 x.k, .int .i64 x.n, .string x.s, .slice A x.l.length c], .nilIface]) ∧ HL w' w.heap.size (.slice A x.l.length c) x.l ∧ w.grownBy w' none
def WholeBad (w : World) (e : Ending) (w' : World) : Prop := ∃ (k n : Int) (s : ByteArray) (A : Option Addr) (len c : Nat) (er : Value) (d : Nat) (f : Int), e = .returned (.tuple #[.agg #[.int .i64 k, .int .i64 n, .string s, .slice A len c], er]) ∧ ErrV d er f ∧ f ≠ 0 ∧ d ≤ 8 ∧ w.grownBy w' none
set_option maxHeartbeats 4000000 in
set_option maxRecDepth 100000 in
theorem whole_bad (s : ByteArray) (w : World) (hl : s.data.toList.length ≤ 1099511627776) (hb : rd 6 s.data.toList = none) : Calls Tryd.prog 34 #[.string s] w (WholeBad w) := by
  have Hr := Lib.hid ((reads_any 6 (by decide) (w.heap.size + 1) s.data.toList ((w.alloc (.cells #[.int .i64 0, .int .i64 0, .string ⟨#[]⟩, .slice none 0 0] 24)).alloc (.cells #[.string s] 76)) ⟨s, rfl, by have := heap_alloc_new (w.alloc (.cells #[.int .i64 0, .int .i64 0, .string ⟨#[]⟩, .slice none 0 0] 24)) (.cells #[.string s] 76); simpa using this⟩ hl).1 hb)
  clear hb hl
  go_enter Tryd.func34, Tryd.ntmps34
  go_wp2_with fail
  refine Hr.out.mono ?_
  rintro e w2 ⟨k, n, s', A, len, c, er, d, f, rfl, her, hf, hd, hg⟩
  obtain ⟨te, pe, rfl⟩ := her.iface
  have Her := Lib.hid her
  have Hrow := Lib.hid (box_read (g := w.heap.size) (cs := #[.int .i64 0, .int .i64 0, .string ⟨#[]⟩, .slice none 0 0]) (T := 24) ((Below.heap_alloc _ (.cells #[.string s] 76) w.heap.size (by simp)).trans (heap_alloc_new w _)) hg (by omega))
  obtain ⟨⟨b0, b1, b2, b3⟩, ⟨f0, f1, f2, f3⟩, hb⟩ := box4 Hrow.out
  have Hg := Lib.hid (gb_new (gb_alloc (gb_alloc (gb_refl w none) (.cells #[.int .i64 0, .int .i64 0, .string ⟨#[]⟩, .slice none 0 0] 24)) (.cells #[.string s] 76)) hg (by omega))
  clear her hg
  go_wp2_with fail
  obtain ⟨⟨q0, q1, q2, q3⟩, _, _⟩ := box4 ((Below.heap_alloc _ (.cells #[.int .i64 k, .int .i64 n, .string s', .slice A len c] 24) w.heap.size (by simp [World.setCell]; omega)).trans (set4_row Hrow.out (.int .i64 k) (.int .i64 n) (.string s') (.slice A len c)))
  refine bodyPost_ret (v := .tuple #[.agg #[.int .i64 k, .int .i64 n, .string s', .slice A len c], .iface te pe]) (by simp [results, Tryd.results34, go_sem, q0, q1, q2, q3]) rfl ?_
  exact ⟨k, n, _, A, len, c, _, d, f, rfl, Her.out, hf, by omega, gb_alloc (gb_new4 (Nat.le_refl _) Hg.out) _⟩
set_option maxHeartbeats 4000000 in
set_option maxRecDepth 100000 in
theorem whole_left (s : ByteArray) (w : World) (hl : s.data.toList.length ≤ 1099511627776) (x : Wr) (t' : List UInt8) (hb : rd 6 s.data.toList = some (x, t')) (hne : t' ≠ []) : Calls Tryd.prog 34 #[.string s] w (WholeBad w) := by
  have Hr := Lib.hid ((reads_any 6 (by decide) (w.heap.size + 1) s.data.toList ((w.alloc (.cells #[.int .i64 0, .int .i64 0, .string ⟨#[]⟩, .slice none 0 0] 24)).alloc (.cells #[.string s] 76)) ⟨s, rfl, by have := heap_alloc_new (w.alloc (.cells #[.int .i64 0, .int .i64 0, .string ⟨#[]⟩, .slice none 0 0] 24)) (.cells #[.string s] 76); simpa using this⟩ hl).2 x t' hb)
  clear hb hl
  go_enter Tryd.func34, Tryd.ntmps34
  go_wp2_with fail
  refine Hr.out.mono ?_
  rintro e w2 ⟨A, c, rfl, hx, hr, hg⟩
  obtain ⟨s', hs', hrb⟩ := hr
  have Hrow := Lib.hid (box_read (g := w.heap.size) (cs := #[.int .i64 0, .int .i64 0, .string ⟨#[]⟩, .slice none 0 0]) (T := 24) ((Below.heap_alloc _ (.cells #[.string s] 76) w.heap.size (by simp)).trans (heap_alloc_new w _)) hg (by omega))
  obtain ⟨⟨b0, b1, b2, b3⟩, ⟨f0, f1, f2, f3⟩, hb⟩ := box4 Hrow.out
  have r0 := cell_of_row w2 (w.heap.size + 1) 0 _ _ _ hrb
  have hrl := (Array.getElem?_eq_some_iff.1 hrb).1
  have Hg := Lib.hid (gb_new (gb_alloc (gb_alloc (gb_refl w none) (.cells #[.int .i64 0, .int .i64 0, .string ⟨#[]⟩, .slice none 0 0] 24)) (.cells #[.string s] 76)) hg (by omega))
  have Hx := Lib.hid hx
  have h1 := list_ne (s := s') (fun e => hne (by rw [← hs']; exact List.eq_nil_of_length_eq_zero (by simpa using e)))
  have h2 : (!s'.toList.isEmpty) = true := by rw [h1]; rfl
  clear hx hg hrb hs' hne
  go_wp2_with fail
  obtain ⟨⟨q0, q1, q2, q3⟩, _, _⟩ := box4 ((Below.heap_alloc _ (.cells #[.int .i64 x.k, .int .i64 x.n, .string x.s, .slice A x.l.length c] 24) w.heap.size (by simp [World.setCell]; omega)).trans (set4_row Hrow.out (.int .i64 x.k) (.int .i64 x.n) (.string x.s) (.slice A x.l.length c)))
  refine bodyPost_ret (v := .tuple #[.agg #[.int .i64 x.k, .int .i64 x.n, .string x.s, .slice A x.l.length c], .iface 62 (.int .i64 2)]) (by simp [results, Tryd.results34, go_sem, q0, q1, q2, q3]) rfl ?_
  exact ⟨x.k, x.n, _, A, _, c, _, 0, 2, rfl, .flt 2, by decide, by omega, gb_alloc (gb_new4 (Nat.le_refl _) Hg.out) _⟩
set_option maxHeartbeats 4000000 in
set_option maxRecDepth 100000 in
theorem whole_good (s : ByteArray) (w : World) (hl : s.data.toList.length ≤ 1099511627776) (x : Wr) (t' : List UInt8) (hb : rd 6 s.data.toList = some (x, t')) (hne : t' = []) : Calls Tryd.prog 34 #[.string s] w (WholeGot x w) := by
  have Hr := Lib.hid ((reads_any 6 (by decide) (w.heap.size + 1) s.data.toList ((w.alloc (.cells #[.int .i64 0, .int .i64 0, .string ⟨#[]⟩, .slice none 0 0] 24)).alloc (.cells #[.string s] 76)) ⟨s, rfl, by have := heap_alloc_new (w.alloc (.cells #[.int .i64 0, .int .i64 0, .string ⟨#[]⟩, .slice none 0 0] 24)) (.cells #[.string s] 76); simpa using this⟩ hl).2 x t' hb)
  clear hb hl
  go_enter Tryd.func34, Tryd.ntmps34
  go_wp2_with fail
  refine Hr.out.mono ?_
  rintro e w2 ⟨A, c, rfl, hx, hr, hg⟩
  obtain ⟨s', hs', hrb⟩ := hr
  have Hrow := Lib.hid (box_read (g := w.heap.size) (cs := #[.int .i64 0, .int .i64 0, .string ⟨#[]⟩, .slice none 0 0]) (T := 24) ((Below.heap_alloc _ (.cells #[.string s] 76) w.heap.size (by simp)).trans (heap_alloc_new w _)) hg (by omega))
  obtain ⟨⟨b0, b1, b2, b3⟩, ⟨f0, f1, f2, f3⟩, hb⟩ := box4 Hrow.out
  have r0 := cell_of_row w2 (w.heap.size + 1) 0 _ _ _ hrb
  have hrl := (Array.getElem?_eq_some_iff.1 hrb).1
  have Hg := Lib.hid (gb_new (gb_alloc (gb_alloc (gb_refl w none) (.cells #[.int .i64 0, .int .i64 0, .string ⟨#[]⟩, .slice none 0 0] 24)) (.cells #[.string s] 76)) hg (by omega))
  have Hx := Lib.hid hx
  have hz : s'.size = 0 := by
    have := congrArg List.length (hs'.trans hne)
    simpa using this
  obtain rfl := size_zero hz
  clear hx hg hrb hs' hne hz
  go_wp2_with fail
  obtain ⟨⟨q0, q1, q2, q3⟩, _, _⟩ := box4 ((Below.heap_alloc _ (.cells #[.int .i64 x.k, .int .i64 x.n, .string x.s, .slice A x.l.length c] 24) w.heap.size (by simp [World.setCell]; omega)).trans (set4_row Hrow.out (.int .i64 x.k) (.int .i64 x.n) (.string x.s) (.slice A x.l.length c)))
  refine bodyPost_ret (v := .tuple #[.agg #[.int .i64 x.k, .int .i64 x.n, .string x.s, .slice A x.l.length c], .nilIface]) (by simp [results, Tryd.results34, go_sem, q0, q1, q2, q3]) rfl ?_
  refine ⟨A, c, rfl, ?_, gb_alloc (gb_new4 (Nat.le_refl _) Hg.out) _⟩
  refine HL.kept ?_ (gb_alloc (gb_refl _ _) _)
  refine (Hx.out.grown (gb_then (gb_then (gb_then (gb_set1 _ w.heap.size _ _) (gb_set1 _ _ _ _)) (gb_set1 _ _ _ _)) (gb_set1 _ _ _ _)) (fun i e => ?_)).low (by simp; omega)
  cases e; simp; omega
theorem whole_any (s : ByteArray) (w : World) (hl : s.data.toList.length ≤ 1099511627776) : (get s.data.toList = none → Calls Tryd.prog 34 #[.string s] w (WholeBad w)) ∧ (∀ x, get s.data.toList = some x → Calls Tryd.prog 34 #[.string s] w (WholeGot x w)) := by
  unfold get
  cases hr : rd 6 s.data.toList with
  | none => exact ⟨fun _ => whole_bad s w hl hr, fun x h => by cases h⟩
  | some p =>
    obtain ⟨x, t⟩ := p
    cases t with
    | nil => exact ⟨(fun h => by cases h), (fun y h => by cases h; exact whole_good s w hl x [] hr rfl)⟩
    | cons a t => exact ⟨(fun _ => whole_left s w hl x (a :: t) hr (by simp)), (fun y h => by cases h)⟩

/-- Get: a wire; or none. -/
def GetGot (x : Wr) (w : World) (e : Ending) (w' : World) : Prop := ∃ A c, e = .returned (.tuple #[.agg #[.int .i64 x.k, .int .i64 x.n, .string x.s, .slice A x.l.length c], .bool true]) ∧ HL w' w.heap.size (.slice A x.l.length c) x.l ∧ w.grownBy w' none
def GetNone (w : World) (e : Ending) (w' : World) : Prop := e = .returned (.tuple #[.agg #[.int .i64 0, .int .i64 0, .string ⟨#[]⟩, .slice none 0 0], .bool false]) ∧ w.grownBy w' none
set_option maxHeartbeats 4000000 in
set_option maxRecDepth 100000 in
theorem get_none (s : ByteArray) (w : World) (hl : s.data.toList.length ≤ 1099511627776) (hb : get s.data.toList = none) (hT : ErrT w) : Calls Tryd.prog 18 #[.string s] w (GetNone w) := by
  have Hw := Lib.hid ((whole_any s (w.alloc (.cells #[.int .i64 0, .int .i64 0, .string ⟨#[]⟩, .slice none 0 0] 24)) hl).1 hb)
  have HT := Lib.hid hT
  clear hb hl hT
  go_enter Tryd.func18, Tryd.ntmps18
  go_wp2_with fail
  refine Hw.out.mono ?_
  rintro e w2 ⟨k, n, s', A, len, c, er, d, f, rfl, her, hf, hd, hg⟩
  have Hg := Lib.hid (gb_none (gb_alloc (gb_refl w none) _) hg)
  obtain ⟨te, pe, rfl⟩ := her.iface
  have Hf := Lib.hid (faultOf_any d _ f her hd (w2.alloc (.cells #[.int .i64 k, .int .i64 n, .string s', .slice A len c] 24)) (HT.out.keep (gb_alloc Hg.out _) (by simp)))
  have Hrow := Lib.hid ((hg.block w.heap.size (by simp) (by simp)).trans (heap_alloc_new w _))
  have t1 : (f == 0) = false := by simpa using hf
  have t2 : (f != 0) = true := by simpa using hf
  clear her hg hf
  go_wp2_with fail
  refine Hf.out.mono ?_
  rintro e w3 ⟨rfl, hg3⟩
  have Hg3 := Lib.hid (gb_none (gb_alloc Hg.out _) hg3)
  obtain ⟨⟨b0, b1, b2, b3⟩, ⟨f0, f1, f2, f3⟩, hb⟩ := box4 ((hg3.block w.heap.size (by have := Hg.out.size; have := (Array.getElem?_eq_some_iff.1 Hrow.out).1; simp; omega) (by simp)).trans ((Below.heap_alloc w2 _ w.heap.size (Array.getElem?_eq_some_iff.1 Hrow.out).1).trans Hrow.out))
  have Hrow3 := Lib.hid ((hg3.block w.heap.size (by have := Hg.out.size; have := (Array.getElem?_eq_some_iff.1 Hrow.out).1; simp; omega) (by simp)).trans ((Below.heap_alloc w2 _ w.heap.size (Array.getElem?_eq_some_iff.1 Hrow.out).1).trans Hrow.out))
  clear hg3
  go_wp2_with fail
  obtain ⟨⟨q0, q1, q2, q3⟩, _, _⟩ := box4 (set4_row Hrow3.out (.int .i64 0) (.int .i64 0) (.string ⟨#[]⟩) (.slice none 0 0))
  refine bodyPost_ret (v := .tuple #[.agg #[.int .i64 0, .int .i64 0, .string ⟨#[]⟩, .slice none 0 0], .bool false]) (by simp [results, Tryd.results18, go_sem, q0, q1, q2, q3]) rfl ?_
  exact ⟨rfl, gb_new4 (Nat.le_refl _) Hg3.out⟩
set_option maxHeartbeats 4000000 in
set_option maxRecDepth 100000 in
theorem get_some (s : ByteArray) (w : World) (hl : s.data.toList.length ≤ 1099511627776) (x : Wr) (hb : get s.data.toList = some x) : Calls Tryd.prog 18 #[.string s] w (GetGot x w) := by
  have Hw := Lib.hid ((whole_any s (w.alloc (.cells #[.int .i64 0, .int .i64 0, .string ⟨#[]⟩, .slice none 0 0] 24)) hl).2 x hb)
  clear hb hl
  go_enter Tryd.func18, Tryd.ntmps18
  go_wp2_with fail
  refine Hw.out.mono ?_
  rintro e w2 ⟨A, c, rfl, hx, hg⟩
  have Hg := Lib.hid (gb_none (gb_alloc (gb_refl w none) _) hg)
  have Hf := Lib.hid (faultOf_nil (w2.alloc (.cells #[.int .i64 x.k, .int .i64 x.n, .string x.s, .slice A x.l.length c] 24)))
  have Hrow := Lib.hid ((hg.block w.heap.size (by simp) (by simp)).trans (heap_alloc_new w _))
  have hwl : w.heap.size < w2.heap.size := (Array.getElem?_eq_some_iff.1 Hrow.out).1
  have Hx := Lib.hid hx
  clear hg hx
  go_wp2_with fail
  refine Hf.out.mono ?_
  rintro e w3 ⟨rfl, hg3⟩
  have Hg3 := Lib.hid (gb_none (gb_alloc Hg.out _) hg3)
  have Hx3 := Lib.hid (Hx.out.kept (gb_none (gb_alloc (gb_refl w2 none) _) hg3))
  have Hrow3 := Lib.hid ((hg3.block w.heap.size (by simp; omega) (by simp)).trans ((Below.heap_alloc w2 _ w.heap.size hwl).trans Hrow.out))
  obtain ⟨⟨b0, b1, b2, b3⟩, ⟨f0, f1, f2, f3⟩, hb⟩ := box4 Hrow3.out
  obtain ⟨⟨c0, c1, c2, c3⟩, _, hc⟩ := box4 (show w3.heap[w2.heap.size]? = some (.cells #[.int .i64 x.k, .int .i64 x.n, .string x.s, .slice A x.l.length c] 24 (0, 0)) from (hg3.block _ (by simp) (by simp)).trans (heap_alloc_new w2 _))
  clear hg3
  go_wp2_with fail
  obtain ⟨⟨q0, q1, q2, q3⟩, _, _⟩ := box4 (set4_row Hrow3.out (.int .i64 x.k) (.int .i64 x.n) (.string x.s) (.slice A x.l.length c))
  refine bodyPost_ret (v := .tuple #[.agg #[.int .i64 x.k, .int .i64 x.n, .string x.s, .slice A x.l.length c], .bool true]) (by simp [results, Tryd.results18, go_sem, q0, q1, q2, q3]) rfl ?_
  refine ⟨A, c, rfl, ?_, gb_new4 (Nat.le_refl _) Hg3.out⟩
  refine (Hx3.out.grown (gb_then (gb_then (gb_then (gb_set1 _ w.heap.size _ _) (gb_set1 _ _ _ _)) (gb_set1 _ _ _ _)) (gb_set1 _ _ _ _)) (fun i e => ?_)).low (by simp)
  cases e; simp
end Go.Proofs.YtbammjhafgbfkaaDoor
