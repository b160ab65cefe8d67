/- The document's read at whatever bytes; GetWire. -/
import Derived.Test.YtbammjhafgbfkaaDoorVRefL
namespace Go.Proofs.YtbammjhafgbfkaaDoor
open Go.RowKit Wd Mm Vw

theorem data_len (s : ByteArray) : s.data.toList.length = s.size := by simp
theorem suffix_len {f : List UInt8 → Option (Wr × List UInt8)} (h : Suffix f) : ∀ s x t, f s = some (x, t) → t.length + 5 ≤ s.length := by
  intro s x t hf
  obtain ⟨p, rfl, hp⟩ := h s x t hf
  rw [List.length_append]; omega
theorem ref_of (s : ByteArray) (hs : s.size ≤ 1099511627776) (R : Int) (hR : R ≤ 100) (sub : Option (List UInt8 → Option (Wr × List UInt8))) (hsub : (sub = none ∧ R < 1) ∨ ∃ f, sub = some f ∧ 1 ≤ R ∧ Suffix f ∧ RefReads s (R - 1) f) : RefReads s R (rdB sub) := by
  intro at_ w hat
  have hsl : ∀ f, sub = some f → ∀ s x t, f s = some (x, t) → t.length + 5 ≤ s.length := by
    intro f hf
    rcases hsub with ⟨h, _⟩ | ⟨g, h, _, hg, _⟩
    · rw [h] at hf; cases hf
    · rw [h] at hf; cases hf; exact suffix_len hg
  have hdl := data_len s
  by_cases h5 : s.size < at_ + 5
  · refine ⟨fun _ => read_short s at_ R w hs h5 hat, fun x t hx => ?_⟩
    have := rdB_len hsl _ _ _ hx
    rw [List.length_drop] at this
    omega
  have ha : at_ < s.size := by omega
  have hl : at_ + 5 ≤ s.size := by omega
  have hcons : s.data.toList.drop at_ = s[at_] :: s.data.toList.drop (at_ + 1) := by
    rw [List.drop_eq_getElem_cons (by omega)]; rfl
  obtain ⟨t, ht⟩ : ∃ t, t = s.data.toList.drop (at_ + 1) := ⟨_, rfl⟩
  have htl : t.length = s.size - (at_ + 1) := by rw [ht, List.length_drop, hdl]
  have h4l : (t.drop 4).length = s.size - (at_ + 5) := by rw [List.length_drop, htl]; omega
  have hd4 : t.drop 4 = s.data.toList.drop (at_ + 5) := by rw [ht, List.drop_drop]
  rw [hcons, ← ht, rdB]
  by_cases h1 : s[at_] = 1
  · rw [if_pos h1]
    have hk : (s[at_]).toNat = 1 := by rw [h1]; rfl
    by_cases h9 : s.size < at_ + 9
    · refine ⟨fun _ => read_nonum s at_ R w hs hl hk h9, fun x t' hx => ?_⟩
      have := (rdN_some hx).1
      omega
    · refine ⟨fun hn => ?_, fun x t' hx => ?_⟩
      · unfold rdN at hn
        rw [if_neg (by omega)] at hn; cases hn
      · obtain ⟨_, rfl, rfl⟩ := rdN_some hx
        have hg := read_num s at_ R w hs hl hk (by omega)
        rw [← ht] at hg
        rw [show s.size - (t.drop 8).length = at_ + 9 by rw [List.length_drop, htl]; omega]
        exact hg
  rw [if_neg h1]
  by_cases h2 : s[at_] = 2
  · rw [if_pos h2]
    have hk : (s[at_]).toNat = 2 := by rw [h2]; rfl
    by_cases hN : beN (t.take 4) ≤ 1048576 ∧ beN (t.take 4) + at_ + 5 ≤ s.size
    · refine ⟨fun hn => ?_, fun x t' hx => ?_⟩
      · unfold rdT at hn
        rw [if_neg (by omega), if_neg (by omega), if_neg (by omega)] at hn; cases hn
      · obtain ⟨_, _, _, rfl, rfl⟩ := rdT_some hx
        have hg := read_text s at_ R w hs hl hk (by rw [← ht]; exact hN.1) (by rw [← ht]; exact hN.2)
        rw [← ht] at hg
        rw [show s.size - ((t.drop 4).drop (beN (t.take 4))).length = at_ + 5 + beN (t.take 4) by rw [List.length_drop, h4l]; omega]
        have e : (⟨((t.drop 4).take (beN (t.take 4))).toArray⟩ : ByteArray) = s.extract (at_ + 5) (at_ + 5 + beN (t.take 4)) := by
          refine text_ext ?_
          rw [ByteArray.toList_eq, ByteArray.toList_eq, ByteArray.data_extract, Array.toList_extract, List.extract_eq_take_drop, hd4]
          simp
        rw [e]
        exact hg
    · refine ⟨fun _ => read_notext s at_ R w hs hl hk (by rw [← ht]; omega), fun x t' hx => ?_⟩
      obtain ⟨_, q1, q2, _, _⟩ := rdT_some hx
      exact absurd ⟨q1, by omega⟩ hN
  rw [if_neg h2]
  by_cases h3 : s[at_] = 3
  · rw [if_pos h3]
    have hk : (s[at_]).toNat = 3 := by rw [h3]; rfl
    rcases hsub with ⟨rfl, hR1⟩ | ⟨f, rfl, hR1, hsuf, ih⟩
    · exact ⟨fun _ => read_nolist s at_ R w hs hl hk (.inr hR1), fun x t' hx => by cases hx⟩
    rw [Option.bind_some]
    by_cases hN : 65536 < beN (t.take 4)
    · refine ⟨fun _ => read_nolist s at_ R w hs hl hk (.inl (by rw [← ht]; exact hN)), fun x t' hx => ?_⟩
      have := (rdL_some hx).2.1
      omega
    have hgo := read_list s at_ R w hs hl hk (by rw [← ht]; omega) hR1 hR f hsuf ih
    rw [← ht, ← hd4] at hgo
    have he : rdL f t = (rds f (beN (t.take 4)) (t.drop 4)).map fun p => (.mk 3 0 ⟨#[]⟩ p.1, p.2) := by
      unfold rdL; rw [if_neg (by omega), if_neg hN]
    rw [he]
    refine ⟨fun hn => ?_, fun x t' hx => ?_⟩
    · rw [Option.map_eq_none_iff] at hn
      exact hgo none hn
    · obtain ⟨⟨l2, t2⟩, hq, hx2⟩ := Option.map_eq_some_iff.1 hx
      simp only [Prod.mk.injEq] at hx2
      obtain ⟨rfl, rfl⟩ := hx2
      exact hgo (some (l2, t2)) hq
  · rw [if_neg h3]
    have hne : ∀ j : UInt8, s[at_] ≠ j → (s[at_]).toNat ≠ j.toNat := fun j h e => h (UInt8.toNat_inj.1 e)
    exact ⟨fun _ => read_nokind s at_ R w hs hl (hne 1 h1) (hne 2 h2) (hne 3 h3), fun x t' hx => by cases hx⟩
theorem ref_any (s : ByteArray) (hs : s.size ≤ 1099511627776) : ∀ R : Nat, R ≤ 100 → RefReads s (R : Int) (rd R) := by
  intro R
  induction R with
  | zero => intro _; exact ref_of s hs 0 (by decide) none (.inl ⟨rfl, by decide⟩)
  | succ R ih =>
    intro hR
    refine ref_of s hs _ (by omega) (some (rd R)) (.inr ⟨rd R, rfl, by omega, rd_suffix R, ?_⟩)
    rw [show ((R + 1 : Nat) : Int) - 1 = (R : Int) by omega]
    exact ih (by omega)

/-- GetWire: a wire; or none. -/
def RefGot (x : Wr) (w : World) (e : Ending) (w' : World) : Prop := ∃ A c, e = .returned (.agg #[.int .i64 x.k, .int .i64 x.n, .string x.s, .slice A x.l.length c, .bool true]) ∧ HL w' w.heap.size (.slice A x.l.length c) x.l ∧ w.grownBy w' none
def RefNone (w : World) (e : Ending) (w' : World) : Prop := e = .returned (.agg #[.int .i64 0, .int .i64 0, .string ⟨#[]⟩, .slice none 0 0, .bool false]) ∧ w.grownBy w' none
theorem start (s : ByteArray) : s.data.toList.drop 0 = s.data.toList := rfl
set_option maxHeartbeats 4000000 in
set_option maxRecDepth 100000 in
theorem refGet_none (s : ByteArray) (w : World) (hs : s.size ≤ 1099511627776) (h : get s.data.toList = none) : Calls Tryd.prog 19 #[.string s] w (RefNone w) := by
  have key : rd 6 s.data.toList = none ∨ ∃ x t, rd 6 s.data.toList = some (x, t) ∧ t ≠ [] := by
    unfold get at h
    cases hr : rd 6 s.data.toList with
    | none => exact .inl rfl
    | some p =>
      obtain ⟨x, t⟩ := p
      rw [hr] at h
      cases t with
      | nil => cases h
      | cons a t => exact .inr ⟨x, a :: t, rfl, by simp⟩
  have hR := ref_any s hs 6 (by decide) 0 (w.alloc (.cells #[.int .i64 0, .int .i64 0, .string ⟨#[]⟩, .slice none 0 0, .bool false] 32)) (Nat.zero_le _)
  rw [start] at hR
  clear h
  rcases key with h0 | ⟨x, t, h1, hne⟩
  · have Hc := Lib.hid (hR.1 h0)
    have tn : ((-1 : Int) == (s.size : Int)) = false := by simp
    have tm : ((-1 : Int) != (s.size : Int)) = true := by simp only [bne, tn]; rfl
    clear hR h0
    go_enter Tryd.func19, Tryd.ntmps19
    go_wp2_with fail
    refine Hc.out.mono ?_
    rintro e w2 ⟨rfl, g2⟩
    have Hg2 := Lib.hid (gb_none (gb_alloc (gb_refl w none) _) g2)
    have Hrow := Lib.hid (row_kept (heap_alloc_new w (.cells #[.int .i64 0, .int .i64 0, .string ⟨#[]⟩, .slice none 0 0, .bool false] 32)) g2)
    clear g2
    have hwl := (Array.getElem?_eq_some_iff.1 Hrow.out).1
    obtain ⟨⟨b0, b1, b2, b3, b4⟩, ⟨f0, f1, f2, f3, f4⟩, hbl⟩ := box5 Hrow.out
    go_wp2_with fail
    obtain ⟨⟨q0, q1, q2, q3, q4⟩, _, _⟩ := box5 ((Below.heap_alloc _ (.cells #[.int .i64 0, .int .i64 0, .string ⟨#[]⟩, .slice none 0 0, .int .i64 (-1)] 65) w.heap.size (by simp [World.setCell]; omega)).trans (set5_row Hrow.out (.int .i64 0) (.int .i64 0) (.string ⟨#[]⟩) (.slice none 0 0) (.bool false)))
    refine bodyPost_ret (v := .agg #[.int .i64 0, .int .i64 0, .string ⟨#[]⟩, .slice none 0 0, .bool false]) (by simp [results, Tryd.results19, go_sem, q0, q1, q2, q3, q4]) rfl ?_
    exact ⟨rfl, gb_alloc (gb_new5 (Nat.le_refl _) Hg2.out) _⟩
  · have Hc := Lib.hid (hR.2 x t h1)
    have hl := rd_len 6 _ x t h1
    have ht : t.length ≠ 0 := fun e => hne (List.eq_nil_of_length_eq_zero e)
    have e0 := data_len s
    obtain ⟨nx, hnx⟩ : ∃ nx : Nat, nx = s.size - t.length := ⟨_, rfl⟩
    rw [← hnx] at Hc
    have tn : ((nx : Int) == (s.size : Int)) = false := by simp; omega
    have tm : ((nx : Int) != (s.size : Int)) = true := by simp only [bne, tn]; rfl
    clear hR h1 hl ht e0 hnx hne
    go_enter Tryd.func19, Tryd.ntmps19
    go_wp2_with fail
    refine Hc.out.mono ?_
    rintro e w2 ⟨A, c, rfl, _, g2⟩
    have Hg2 := Lib.hid (gb_none (gb_alloc (gb_refl w none) _) g2)
    have Hrow := Lib.hid (row_kept (heap_alloc_new w (.cells #[.int .i64 0, .int .i64 0, .string ⟨#[]⟩, .slice none 0 0, .bool false] 32)) g2)
    clear g2
    have hwl := (Array.getElem?_eq_some_iff.1 Hrow.out).1
    obtain ⟨⟨b0, b1, b2, b3, b4⟩, ⟨f0, f1, f2, f3, f4⟩, hbl⟩ := box5 Hrow.out
    go_wp2_with fail
    obtain ⟨⟨q0, q1, q2, q3, q4⟩, _, _⟩ := box5 ((Below.heap_alloc _ (.cells #[.int .i64 x.k, .int .i64 x.n, .string x.s, .slice A x.l.length c, .int .i64 (nx : Int)] 65) w.heap.size (by simp [World.setCell]; omega)).trans (set5_row Hrow.out (.int .i64 0) (.int .i64 0) (.string ⟨#[]⟩) (.slice none 0 0) (.bool false)))
    refine bodyPost_ret (v := .agg #[.int .i64 0, .int .i64 0, .string ⟨#[]⟩, .slice none 0 0, .bool false]) (by simp [results, Tryd.results19, go_sem, q0, q1, q2, q3, q4]) rfl ?_
    exact ⟨rfl, gb_alloc (gb_new5 (Nat.le_refl _) Hg2.out) _⟩
set_option maxHeartbeats 4000000 in
set_option maxRecDepth 100000 in
theorem refGet_some (s : ByteArray) (w : World) (hs : s.size ≤ 1099511627776) (x : Wr) (h : get s.data.toList = some x) : Calls Tryd.prog 19 #[.string s] w (RefGot x w) := by
  have h1 : rd 6 s.data.toList = some (x, []) := by
    obtain ⟨e1, e2, e3⟩ := get_back h
    have := rd_enc 6 x e2 e3 []
    rw [List.append_nil, ← e1] at this
    exact this
  have hR := ref_any s hs 6 (by decide) 0 (w.alloc (.cells #[.int .i64 0, .int .i64 0, .string ⟨#[]⟩, .slice none 0 0, .bool false] 32)) (Nat.zero_le _)
  rw [start] at hR
  have hc := hR.2 x [] h1
  rw [List.length_nil, Nat.sub_zero] at hc
  have Hc := Lib.hid hc
  have tn : ((s.size : Int) == (s.size : Int)) = true := by simp
  have tm : ((s.size : Int) != (s.size : Int)) = false := by simp
  clear hR h1 h hc
  go_enter Tryd.func19, Tryd.ntmps19
  go_wp2_with fail
  refine Hc.out.mono ?_
  rintro e w2 ⟨A, c, rfl, hx, g2⟩
  have Hg2 := Lib.hid (gb_none (gb_alloc (gb_refl w none) _) g2)
  have Hrow := Lib.hid (row_kept (heap_alloc_new w (.cells #[.int .i64 0, .int .i64 0, .string ⟨#[]⟩, .slice none 0 0, .bool false] 32)) g2)
  have Hx := Lib.hid hx
  clear g2 hx
  have hwl := (Array.getElem?_eq_some_iff.1 Hrow.out).1
  obtain ⟨⟨b0, b1, b2, b3, b4⟩, ⟨f0, f1, f2, f3, f4⟩, hbl⟩ := box5 Hrow.out
  go_wp2_with fail
  obtain ⟨⟨q0, q1, q2, q3, q4⟩, _, _⟩ := box5 ((Below.heap_alloc _ (.cells #[.int .i64 x.k, .int .i64 x.n, .string x.s, .slice A x.l.length c, .int .i64 (s.size : Int)] 65) w.heap.size (by simp [World.setCell]; omega)).trans (set5_row Hrow.out (.int .i64 x.k) (.int .i64 x.n) (.string x.s) (.slice A x.l.length c) (.bool true)))
  refine bodyPost_ret (v := .agg #[.int .i64 x.k, .int .i64 x.n, .string x.s, .slice A x.l.length c, .bool true]) (by simp [results, Tryd.results19, go_sem, q0, q1, q2, q3, q4]) rfl ?_
  refine ⟨A, c, rfl, ?_, gb_alloc (gb_new5 (Nat.le_refl _) Hg2.out) _⟩
  refine HL.kept ?_ (gb_alloc (gb_refl _ _) _)
  refine (Hx.out.grown (gb_then (gb_then (gb_then (gb_then (gb_set1 _ w.heap.size _ _) (gb_set1 _ _ _ _)) (gb_set1 _ _ _ _)) (gb_set1 _ _ _ _)) (gb_set1 _ _ _ _)) (fun m e => ?_)).low (by simp)
  cases e; simp
end Go.Proofs.YtbammjhafgbfkaaDoor
