/- The document's Unpad. -/
import Derived.Test.YtlpanplebagmbaaDoorPRef
namespace Go.Proofs.YtlpanplebagmbaaDoor
open Go.RowKit Wd Mm

theorem padL_at (l : List UInt8) : (padL l)[l.length]? = some 128 := by simp [padL]
theorem padL_past (l : List UInt8) (i : Nat) (h : l.length < i) (hi : i < (padL l).length) : (padL l)[i]? = some 0 := by
  unfold padL at hi ⊢
  rw [List.length_append, List.length_cons, List.length_replicate] at hi
  rw [List.getElem?_append_right (by omega)]
  obtain ⟨j, hj⟩ : ∃ j, i - l.length = j + 1 := ⟨i - l.length - 1, by omega⟩
  rw [hj, List.getElem?_cons_succ, List.getElem?_replicate, if_pos (by omega)]
theorem unp_zeros (s : List UInt8) (h : ∀ i, i < s.length → s[i]? = some 0) : unpL s = none := by
  cases hu : unpL s with
  | none => rfl
  | some l =>
    obtain ⟨h1, h2⟩ := unp_back hu
    have h3 := padL_len l h2
    have h4 := (bk_above _ h2).1
    have h5 := h l.length (by rw [h1]; omega)
    rw [h1, padL_at] at h5
    cases h5
theorem unp_at (s : List UInt8) (j : Nat) (x : UInt8) (hx : s[j]? = some x) (h0 : x ≠ 0) (hz : ∀ i, j < i → i < s.length → s[i]? = some 0) {l : List UInt8} (hu : unpL s = some l) : l = s.take j ∧ s = padL (s.take j) ∧ bk (s.take j).length ≠ 0 := by
  obtain ⟨h1, h2⟩ := unp_back hu
  have h3 := padL_len l h2
  have h4 := (bk_above _ h2).1
  have hs : s.length = bk l.length := by rw [h1, h3]
  have e : l.length = j := by
    rcases Nat.lt_trichotomy l.length j with hlt | he | hgt
    · have hj : j < s.length := (List.getElem?_eq_some_iff.1 hx).1
      have := padL_past l j hlt (by rw [← h1]; exact hj)
      rw [← h1, hx] at this
      exact absurd (Option.some.inj this) h0
    · exact he
    · have := hz l.length hgt (by omega)
      rw [h1, padL_at] at this
      cases this
  have e2 : l = s.take j := by
    rw [h1, ← e]
    unfold padL
    rw [List.take_left]
  rw [← e2]
  exact ⟨rfl, h1, h2⟩
theorem ext_list (s : ByteArray) (j : Nat) : (s.extract 0 j).data.toList = s.data.toList.take j := by
  rw [ByteArray.data_extract, Array.toList_extract, List.extract_eq_take_drop, List.drop_zero]; simp
theorem said_text (b : ByteArray) (c : Bool) (W : World) : (Instr.field 26 (.agg #[.string b, .bool c]) 0).run Tryd.prog W = .ok (.string b) W := by kernel_rfl
theorem said_ok (b : ByteArray) (c : Bool) (W : World) : (Instr.field 26 (.agg #[.string b, .bool c]) 1).run Tryd.prog W = .ok (.bool c) W := by kernel_rfl
/-- What it tells. -/
def UnpR (s : ByteArray) (w : World) (e : Ending) (w' : World) : Prop := (∃ b c, e = .returned (.agg #[.string b, .bool c]) ∧ (unpL s.data.toList = none → c = false ∧ b = ⟨#[]⟩) ∧ ∀ l, unpL s.data.toList = some l → c = true ∧ b = ⟨l.toArray⟩) ∧ w.grownBy w' none

set_option maxHeartbeats 2000000 in
set_option maxRecDepth 100000 in
theorem refUnpad_any (s : ByteArray) (w : World) (hs : s.size ≤ 9223372036854775807) : Calls Tryd.prog 10 #[.string s] w (UnpR s w) := by
  have HR0 := Lib.hid (Row.new w 26 #[.string ⟨#[]⟩, .bool false])
  have HG0 := Lib.hid (gb_alloc (gb_refl w none) (.cells #[.string ⟨#[]⟩, .bool false] 26))
  have hfd := said_text
  go_enter Tryd.func10, Tryd.ntmps10
  go_wp2_with fail
  go_loop [3] (fun n => ∃ j : Nat, j ≤ s.size ∧ n = .int .i64 j ∧ ∀ i, j ≤ i → i < s.size → s.data.toList[i]? = some 0) (fun n => (intOf n).toNat)
  case atStart => exact ⟨s.size, Nat.le_refl _, rfl, fun i h1 h2 => by omega⟩
  case round =>
    obtain ⟨j, hj, rfl, hz⟩ := hrel
    cases j with
    | zero =>
      have Hu := Lib.hid (unp_zeros s.data.toList (fun i hi => hz i (Nat.zero_le _) (by rw [len_data] at hi; exact hi)))
      clear hz
      go_wp2_with fail
      refine bodyPost_ret (v := .agg #[.string ⟨#[]⟩, .bool false]) (by simp [results, Tryd.results10, go_sem]) rfl ?_
      exact ⟨⟨_, _, rfl, fun _ => ⟨rfl, rfl⟩, fun l hl => by rw [Hu.out] at hl; cases hl⟩, HG0.out⟩
    | succ m =>
      have hm : m < s.size := by omega
      have d0 : decide (0 < ((m + 1 : Nat) : Int)) = true := decide_eq_true (by omega)
      have d1 : decide (0 < m + 1) = true := decide_eq_true (by omega)
      have hget : s.data.toList[m]? = some s[m] := by
        rw [Array.getElem?_toList, Array.getElem?_eq_getElem hm]; rfl
      by_cases hx : s[m] = 0
      · have t1 : ((s[m].toNat : Int) == 0) = true := by rw [hx]; rfl
        have Hz := Lib.hid (show ∀ i, m ≤ i → i < s.size → s.data.toList[i]? = some 0 from fun i h1 h2 => by
          rcases Nat.lt_or_ge m i with h3 | h3
          · exact hz i h3 h2
          · obtain rfl : i = m := by omega
            rw [hget, hx])
        clear hz hget hx
        go_wp2_with fail
        go_round
        case rel => exact ⟨m, by omega, by go_num, Hz.out⟩
        case measure => simp [intOf]
      · have t1 : ((s[m].toNat : Int) == 0) = false := by
          simp only [beq_eq_false_iff_ne, ne_eq]
          intro e
          exact hx (UInt8.toNat_inj.1 (by simpa using e))
        have t2 : ((m : Int) + 1 == 0) = false := by simp; omega
        have Hu := Lib.hid (show ∀ l, unpL s.data.toList = some l → l = s.data.toList.take m ∧ s.data.toList = padL (s.data.toList.take m) ∧ bk (s.data.toList.take m).length ≠ 0 from fun l hl => unp_at s.data.toList m _ hget hx (fun i h1 h2 => hz i h1 (by rw [len_data] at h2; exact h2)) hl)
        clear hz hget hx
        have hal : (s.extract 0 m).data.toList = s.data.toList.take m := ext_list s m
        have hasz : (s.extract 0 m).size = m := by rw [← len_data, hal, List.length_take, len_data]; omega
        rw [← hal] at Hu
        obtain ⟨A, HA⟩ : ∃ A, Hid (s.extract 0 m = A) := ⟨_, rfl⟩
        rw [HA.out] at Hu hal hasz
        by_cases hb : bk (A.size : Int) = 0
        · have HPN := Lib.hid (fun W => refPad_none A W hb (by omega))
          have HU2 := Lib.hid (show ∀ l, unpL s.data.toList ≠ some l from fun l hl => by
            have := (Hu.out l hl).2.2
            rw [len_data] at this
            exact this hb)
          have t3 := none_ne (b := s) (by omega)
          have HA2 := HA.out
          clear hb hal hasz Hu
          go_wp2_with fail
          refine (HPN.out _).mono ?_
          rintro e w1 ⟨rfl, g1⟩
          have hr := HR0.out.kept g1 (by simp)
          have HR1 := Lib.hid hr
          have HG1 := Lib.hid (gb_none HG0.out g1)
          have c0 := hr.at_ (i := 0) rfl
          have c1 := hr.at_ (i := 1) rfl
          have f0 := hr.free 0
          have f1 := hr.free 1
          clear g1 hr
          go_wp2_with fail
          have HB4 := (HR1.out.set_ 0 (.string ⟨#[]⟩)).set_ 1 (.bool false)
          have q0 := HB4.at_ (i := 0) rfl
          have q1 := HB4.at_ (i := 1) rfl
          refine bodyPost_ret (v := .agg #[.string ⟨#[]⟩, .bool false]) (by simp [results, Tryd.results10, go_sem, q0, q1]) rfl ?_
          exact ⟨⟨_, _, rfl, fun _ => ⟨rfl, rfl⟩, fun l hl => absurd hl (HU2.out l)⟩, gb_new (gb_new HG1.out (gb_set1 _ _ _ _) (Nat.le_refl _)) (gb_set1 _ _ _ _) (Nat.le_refl _)⟩
        by_cases he : padB A = s
        · have HPN := Lib.hid (fun W => refPad_some A W hb)
          have hun : unpL s.data.toList = some A.data.toList := by
            have := unp_pad A.data.toList (by rw [len_data]; exact hb)
            rw [← he]
            exact this
          have HU2 := Lib.hid (show unpL s.data.toList ≠ none by rw [hun]; exact fun h => by cases h)
          have HU3 := Lib.hid (show ∀ l, unpL s.data.toList = some l → A = ⟨l.toArray⟩ from fun l hl => by
            rw [hun] at hl
            cases hl
            rfl)
          have t3 := text_eq he
          have HA2 := HA.out
          clear hb hal hasz Hu hun he
          go_wp2_with fail
          refine (HPN.out _).mono ?_
          rintro e w1 ⟨rfl, g1⟩
          have hr := HR0.out.kept g1 (by simp)
          have HR1 := Lib.hid hr
          have HG1 := Lib.hid (gb_none HG0.out g1)
          have c0 := hr.at_ (i := 0) rfl
          have c1 := hr.at_ (i := 1) rfl
          have f0 := hr.free 0
          have f1 := hr.free 1
          clear g1 hr
          go_wp2_with fail
          have HB4 := (HR1.out.set_ 0 (.string A)).set_ 1 (.bool true)
          have q0 := HB4.at_ (i := 0) rfl
          have q1 := HB4.at_ (i := 1) rfl
          refine bodyPost_ret (v := .agg #[.string A, .bool true]) (by simp [results, Tryd.results10, go_sem, q0, q1]) rfl ?_
          exact ⟨⟨_, _, rfl, fun hn => absurd hn HU2.out, fun l hl => ⟨rfl, HU3.out l hl⟩⟩, gb_new (gb_new HG1.out (gb_set1 _ _ _ _) (Nat.le_refl _)) (gb_set1 _ _ _ _) (Nat.le_refl _)⟩
        have HPN := Lib.hid (fun W => refPad_some A W hb)
        have HU2 := Lib.hid (show ∀ l, unpL s.data.toList ≠ some l from fun l hl => by
          obtain ⟨h1, h2, _⟩ := Hu.out l hl
          refine he (ByteArray.ext (Array.ext' ?_))
          show (padL A.data.toList).toArray.toList = s.data.toList
          exact h2.symm)
        have t3 := text_ne he
        have HA2 := HA.out
        clear hb hal hasz Hu he
        go_wp2_with fail
        refine (HPN.out _).mono ?_
        rintro e w1 ⟨rfl, g1⟩
        have hr := HR0.out.kept g1 (by simp)
        have HR1 := Lib.hid hr
        have HG1 := Lib.hid (gb_none HG0.out g1)
        have c0 := hr.at_ (i := 0) rfl
        have c1 := hr.at_ (i := 1) rfl
        have f0 := hr.free 0
        have f1 := hr.free 1
        clear g1 hr
        go_wp2_with fail
        have HB4 := (HR1.out.set_ 0 (.string ⟨#[]⟩)).set_ 1 (.bool false)
        have q0 := HB4.at_ (i := 0) rfl
        have q1 := HB4.at_ (i := 1) rfl
        refine bodyPost_ret (v := .agg #[.string ⟨#[]⟩, .bool false]) (by simp [results, Tryd.results10, go_sem, q0, q1]) rfl ?_
        exact ⟨⟨_, _, rfl, fun _ => ⟨rfl, rfl⟩, fun l hl => absurd hl (HU2.out l)⟩, gb_new (gb_new HG1.out (gb_set1 _ _ _ _) (Nat.le_refl _)) (gb_set1 _ _ _ _) (Nat.le_refl _)⟩
end Go.Proofs.YtlpanplebagmbaaDoor
