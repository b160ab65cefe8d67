/- The document's Of, given mix. -/
import Derived.Test.YtblndpfgfakdeaaDtUnion
import Derived.Test.YtblndpfgfakdeaaDtMay
import Derived.Test.YtblndpfgfakdeaaTold
namespace Go.Proofs.Ytblndpfgfakdeaa.Dt
open Go Go.RowKit Go.Proofs.Ytblndpfgfakdeaa.Mm Go.Proofs.Ytblndpfgfakdeaa.Td

/-- The slice at A, of n dots, reads as these. -/
def DL (w : World) (A : Option Addr) (n : Nat) (l : List (Int × Int)) : Prop :=
  l.length = n ∧ (0 < n → ∃ g o, A = some ⟨g, o, none⟩ ∧ g < w.heap.size ∧ ∀ i x, l[i]? = some x → w.cell? ⟨g, o + i * 2, none⟩ = some (.int .i64 x.1) ∧ w.cell? ⟨g, o + i * 2 + 1, none⟩ = some (.int .i64 x.2))
theorem DL.keep {w w' : World} {A : Option Addr} {n : Nat} {l : List (Int × Int)} (h : DL w A n l) (hg : w.grownBy w' none) : DL w' A n l := by
  refine ⟨h.1, fun hn => ?_⟩
  obtain ⟨g, o, e, hl, hc⟩ := h.2 hn
  refine ⟨g, o, e, Nat.lt_of_lt_of_le hl hg.size, fun i x hx => ?_⟩
  have hb := hg.block g hl (by simp)
  obtain ⟨h0, h1⟩ := hc i x hx
  exact ⟨(World.cell?_of_block (a := ⟨g, o + i * 2, none⟩) hb).trans h0, (World.cell?_of_block (a := ⟨g, o + i * 2 + 1, none⟩) hb).trans h1⟩
theorem ofR_snoc (x : Int × Int) : ∀ (l : List (Int × Int)) (acc : List Rn), ofR acc (l ++ [x]) = if Ok ⟨x.1, x.2, x.2⟩ then unionR (ofR acc l) [⟨x.1, x.2, x.2⟩] else ofR acc l
  | [], acc => rfl
  | (d, n) :: l, acc => by rw [List.cons_append, ofR, ofR, ofR_snoc x l]
theorem ofR_more {l : List (Int × Int)} {k : Nat} {x : Int × Int} (h : l[k]? = some x) : ofR [] (l.take (k + 1)) = if Ok ⟨x.1, x.2, x.2⟩ then unionR (ofR [] (l.take k)) [⟨x.1, x.2, x.2⟩] else ofR [] (l.take k) := by
  rw [List.take_add_one, h]; exact ofR_snoc x _ _
theorem sub_len : ∀ (a b : List (Int × Int)), a.Nodup → (∀ x ∈ a, x ∈ b) → a.length ≤ b.length
  | [], b, _, _ => Nat.zero_le _
  | x :: a, b, hn, hs => by
    have hx := hs x (by simp)
    obtain ⟨h1, h2⟩ := List.nodup_cons.1 hn
    have := sub_len a (b.erase x) h2 (fun y hy => (List.mem_erase_of_ne (by intro e; subst e; exact h1 hy)).2 (hs y (by simp [hy])))
    rw [List.length_erase_of_mem hx] at this
    have hb : 0 < b.length := List.length_pos_of_mem hx
    rw [List.length_cons]; omega
/-- No more runs than dots were named. -/
theorem of_len (l : List (Int × Int)) : (ofR [] l).length ≤ l.length := by
  have h := of_may l
  have hh := of_has l
  generalize ofR [] l = R at *
  have hn : (R.map fun r => (r.d, r.f)).Nodup := by
    rw [List.Nodup, List.pairwise_map]
    refine List.Pairwise.imp_of_mem (fun {a b} ha hb hab e => ?_) h.2
    obtain ⟨_, _, _, k4, _⟩ := h.1 a ha
    have e1 : a.d = b.d := congrArg Prod.fst e
    have e2 : a.f = b.f := congrArg Prod.snd e
    rcases hab with h1 | ⟨_, h1⟩ <;> omega
  have hs : ∀ x ∈ R.map (fun r => (r.d, r.f)), x ∈ l := fun x hx => by
    obtain ⟨r, hr, rfl⟩ := List.mem_map.1 hx
    obtain ⟨_, _, _, k4, _⟩ := h.1 r hr
    exact ((hh r.d r.f).1 ⟨r, hr, rfl, Int.le_refl _, k4⟩).1
  have := sub_len _ _ hn hs
  rwa [List.length_map] at this
def runsV (l : List Rn) : Td.Spec := fun W v => ∃ A c, v = .slice A l.length c ∧ RL W A l.length l
theorem runsV_stays {l : List Rn} : Stays (fun a b => a.grownBy b none) (runsV l) := fun _ _ _ h ⟨A, c, e, hr⟩ => ⟨A, c, e, hr.keep h⟩
theorem rl_new1 (w : World) (x y z : Int) (t : TypeId) : RL (w.alloc (.cells #[.int .i64 x, .int .i64 y, .int .i64 z] t)) (some ⟨w.heap.size, 0, none⟩) 1 [⟨x, y, z⟩] := by
  have hr := Row.new w t #[.int .i64 x, .int .i64 y, .int .i64 z]
  refine ⟨rfl, fun _ => ⟨w.heap.size, 0, rfl, hr.lt, fun i r h => ?_⟩⟩
  have hi : i = 0 := by
    rcases i with _ | i
    · rfl
    · simp at h
  subst hi
  obtain rfl : (⟨x, y, z⟩ : Rn) = r := by simpa using h
  exact ⟨hr.at_ (i := 0) rfl, hr.at_ (i := 1) rfl, hr.at_ (i := 2) rfl⟩
-- the walk
attribute [local go_sem] Td.upon_value Td.upon_skip Td.upon_enter Td.upon_row Td.look_tmp Td.look_const Td.look_func Td.look_global
set_option maxHeartbeats 8000000 in
set_option maxRecDepth 100000 in
theorem refOf_of (hmix : MixC) (A : Option Addr) (n c : Nat) (l : List (Int × Int)) (w : World) (hl : DL w A n l) (hn : n ≤ 50000) :
    Calls Try.prog 27 #[.slice A n c] w (Runs (ofR [] l) w) := by
  have Hl := Lib.hid hl
  have Mx := Lib.hid hmix
  clear hl hmix
  go_enter Try.func27, Try.ntmps27
  go_wp2_with fail
  go_loopw [4, 3] (fun i v wr => ∃ (k : Nat) (A1 : Option Addr) (c1 : Nat) (R : List Rn), k ≤ n ∧ i = .int .i64 k ∧ Hid (R = ofR [] (l.take k)) ∧ v = .slice A1 R.length c1 ∧ RL wr A1 R.length R ∧ Hid ((R.length = 0 → A1 = none ∧ c1 = 0) ∧ R.length ≤ c1) ∧ w.grownBy wr none) (fun i _ _ => n - (intOf i).toNat)
  case atStart => exact ⟨0, none, 0, [], Nat.zero_le _, rfl, by show _ = _; rfl, rfl, RL.none _ _, ⟨fun _ => ⟨rfl, rfl⟩, Nat.le_refl _⟩, gb_refl _ _⟩
  case round =>
    obtain ⟨k, A1, c1, R, hk, rfl, HR, rfl, hR, H0, hg⟩ := hrel
    by_cases hlt : k < n
    · have d1 : decide (k < n) = true := decide_eq_true hlt
      have d2 : decide ((k : Int) < (n : Int)) = true := decide_eq_true (by omega)
      have bk : (k : Int) < (n : Int) := by omega
      obtain ⟨g, o, rfl, hgl, hcc⟩ := (Hl.out.keep hg).2 (by omega)
      obtain ⟨x, hx⟩ : ∃ x, l[k]? = some x := ⟨_, List.getElem?_eq_getElem (by rw [Hl.out.1]; exact hlt)⟩
      obtain ⟨h0, h1⟩ := hcc k x hx
      have HC0 : Hid (∀ W, wr.grownBy W none → W.cell? ⟨g, o + k * 2, none⟩ = some (.int .i64 x.1)) := fun W hW => (World.cell?_of_block (a := ⟨g, o + k * 2, none⟩) (hW.block g hgl (by simp))).trans h0
      have HC1 : Hid (∀ W, wr.grownBy W none → W.cell? ⟨g, o + k * 2 + 1, none⟩ = some (.int .i64 x.2)) := fun W hW => (World.cell?_of_block (a := ⟨g, o + k * 2 + 1, none⟩) (hW.block g hgl (by simp))).trans h1
      have Hm := Lib.hid (ofR_more hx)
      have hRl : R.length ≤ 50000 := by
        have := of_len (l.take k)
        rw [← HR.out, List.length_take] at this
        omega
      have HRm : Hid (May R) := by show May R; rw [HR.out]; exact of_may _
      have HRR := Lib.hid hR
      have G := Lib.hid hg
      clear h0 h1 hcc hx hR hg hgl
      go_upto_region 5 with fail
      apply wp_region_told (le := fun a b => a.grownBy b none) [isV _, isV _, isV _, isV _, isV _, isV _, isV _, isV _, isV _, isV _, isV _, isV _, isV _, isV _, isV _, isV _, runsV [⟨x.1, x.2, x.2⟩], runsV [⟨x.1, x.2, x.2⟩]]
      case hn => rfl
      case hm => kernel_rfl
      case hB => kernel_rfl
      case ht => exact fun _ _ _ h k => gb_none h k
      case hw => exact gb_drew (gb_refl _ _)
      -- 0: ref.go:98 move
      apply told_is
      · intro W f hW hE h0 K hK
        have e0 := h0 0 (by kernel_rfl)
        conv at e0 => rhs; whnf
        clear hE h0
        refine yes_of (want_free rfl) ?_
        go_simp; exact hK _ _ (gb_refl _ _) rfl
      -- 1: ref.go:98 move
      apply told_is
      · intro W f hW hE h0 K hK
        have e4 := h0 4 (by kernel_rfl)
        conv at e4 => rhs; whnf
        clear hE h0
        refine yes_of (want_free rfl) ?_
        go_simp; exact hK _ _ (gb_refl _ _) rfl
      -- 2: ref.go:98 indexAddr
      apply told_is
      · intro W f hW hE h0 K hK
        have e12 : f 12 = _ := hE 1 12 _ rfl (by kernel_rfl)
        have e13 : f 13 = _ := hE 0 13 _ rfl (by kernel_rfl)
        clear hE h0
        refine yes_of (want_free rfl) ?_
        go_simp; exact hK _ _ (gb_refl _ _) rfl
      -- 3: ref.go:98 fieldAddr
      apply told_is
      · intro W f hW hE h0 K hK
        have e14 : f 14 = _ := hE 0 14 _ rfl (by kernel_rfl)
        clear hE h0
        refine yes_of (want_free rfl) ?_
        go_simp; exact hK _ _ (gb_refl _ _) rfl
      -- 4: ref.go:98 load
      apply told_is
      · intro W f hW hE h0 K hK
        have e15 : f 15 = _ := hE 0 15 _ rfl (by kernel_rfl)
        clear hE h0
        refine yes_of (want_free rfl) ?_
        have hc := HC0.out W hW
        go_simp; exact hK _ _ (gb_refl _ _) rfl
      -- 5: ref.go:98 move
      apply told_is
      · intro W f hW hE h0 K hK
        have e0 := h0 0 (by kernel_rfl)
        conv at e0 => rhs; whnf
        clear hE h0
        refine yes_of (want_free rfl) ?_
        go_simp; exact hK _ _ (gb_refl _ _) rfl
      -- 6: ref.go:98 move
      apply told_is
      · intro W f hW hE h0 K hK
        have e4 := h0 4 (by kernel_rfl)
        conv at e4 => rhs; whnf
        clear hE h0
        refine yes_of (want_free rfl) ?_
        go_simp; exact hK _ _ (gb_refl _ _) rfl
      -- 7: ref.go:98 indexAddr
      apply told_is
      · intro W f hW hE h0 K hK
        have e17 : f 17 = _ := hE 1 17 _ rfl (by kernel_rfl)
        have e18 : f 18 = _ := hE 0 18 _ rfl (by kernel_rfl)
        clear hE h0
        refine yes_of (want_free rfl) ?_
        go_simp; exact hK _ _ (gb_refl _ _) rfl
      -- 8: ref.go:98 fieldAddr
      apply told_is
      · intro W f hW hE h0 K hK
        have e19 : f 19 = _ := hE 0 19 _ rfl (by kernel_rfl)
        clear hE h0
        refine yes_of (want_free rfl) ?_
        go_simp; exact hK _ _ (gb_refl _ _) rfl
      -- 9: ref.go:98 load
      apply told_is
      · intro W f hW hE h0 K hK
        have e20 : f 20 = _ := hE 0 20 _ rfl (by kernel_rfl)
        clear hE h0
        refine yes_of (want_free rfl) ?_
        have hc := HC1.out W hW
        go_simp; exact hK _ _ (gb_refl _ _) rfl
      -- 10: ref.go:98 move
      apply told_is
      · intro W f hW hE h0 K hK
        have e0 := h0 0 (by kernel_rfl)
        conv at e0 => rhs; whnf
        clear hE h0
        refine yes_of (want_free rfl) ?_
        go_simp; exact hK _ _ (gb_refl _ _) rfl
      -- 11: ref.go:98 move
      apply told_is
      · intro W f hW hE h0 K hK
        have e4 := h0 4 (by kernel_rfl)
        conv at e4 => rhs; whnf
        clear hE h0
        refine yes_of (want_free rfl) ?_
        go_simp; exact hK _ _ (gb_refl _ _) rfl
      -- 12: ref.go:98 indexAddr
      apply told_is
      · intro W f hW hE h0 K hK
        have e22 : f 22 = _ := hE 1 22 _ rfl (by kernel_rfl)
        have e23 : f 23 = _ := hE 0 23 _ rfl (by kernel_rfl)
        clear hE h0
        refine yes_of (want_free rfl) ?_
        go_simp; exact hK _ _ (gb_refl _ _) rfl
      -- 13: ref.go:98 fieldAddr
      apply told_is
      · intro W f hW hE h0 K hK
        have e24 : f 24 = _ := hE 0 24 _ rfl (by kernel_rfl)
        clear hE h0
        refine yes_of (want_free rfl) ?_
        go_simp; exact hK _ _ (gb_refl _ _) rfl
      -- 14: ref.go:98 load
      apply told_is
      · intro W f hW hE h0 K hK
        have e25 : f 25 = _ := hE 0 25 _ rfl (by kernel_rfl)
        clear hE h0
        refine yes_of (want_free rfl) ?_
        have hc := HC1.out W hW
        go_simp; exact hK _ _ (gb_refl _ _) rfl
      -- 15: ref.go:98 build
      apply told_is
      · intro W f hW hE h0 K hK
        have e16 : f 16 = _ := hE 10 16 _ rfl (by kernel_rfl)
        have e21 : f 21 = _ := hE 5 21 _ rfl (by kernel_rfl)
        have e26 : f 26 = _ := hE 0 26 _ rfl (by kernel_rfl)
        clear hE h0
        refine yes_of (want_free rfl) ?_
        go_simp; exact hK _ _ (gb_refl _ _) rfl
      -- 16: ref.go:98 buildSlice
      apply told_at runsV_stays
      · intro W f hW hE h0 K hK
        have e27 : f 27 = _ := hE 0 27 _ rfl (by kernel_rfl)
        clear hE h0
        refine yes_of (want_free rfl) ?_
        go_simp
        exact hK _ _ (gb_alloc (gb_refl _ _) _) ⟨_, _, rfl, rl_new1 _ _ _ _ _⟩
      -- 17: ref.go:98 assign
      apply told_at runsV_stays
      · intro W f hW hE h0 K hK
        have e28 := hE 0 28 _ rfl (by kernel_rfl)
        clear hE h0
        refine yes_of (want_free rfl) ?_
        go_simp
        exact hK _ _ (gb_refl _ _) e28
      intro W f hW hA
      simp only [lexIn, Act.put, List.setIfInBounds_toArray, List.set_cons_zero, List.set_cons_succ]
      have e5 := hA 0 (some 5) _ rfl
      clear hA
      obtain ⟨A5, c5, e5', hx5⟩ := e5
      rw [e5']
      have hR5 := HRR.out.keep hW
      have g5 := gb_none G.out hW
      clear e5' hW
      go_wp2_with fail
      refine (refMay_any A5 1 c5 [⟨x.1, x.2, x.2⟩] _ hx5 (by decide)).mono ?_
      rintro e w6 ⟨⟨b, rfl, hb⟩, g6⟩
      have hR6 := hR5.keep g6
      have hx6 := hx5.keep g6
      have g7 := gb_none g5 g6
      clear hR5 hx5 g5 g6
      cases b with
      | true =>
        have ho : Ok ⟨x.1, x.2, x.2⟩ := (hb.1 rfl).1 _ (by simp)
        have Hn : Hid (unionR R [⟨x.1, x.2, x.2⟩] = ofR [] (l.take (k + 1))) := by show _ = _; rw [Hm.out, if_pos ho, HR.out]
        have Hu := Lib.hid (refUnion_of Mx.out A1 A5 R.length c1 1 c5 R [⟨x.1, x.2, x.2⟩] w6 hR6 hx6 HRm.out.1 (one_may ho).1 (by omega) (by decide))
        clear hb ho hR6 hx6
        go_wp2_with fail
        refine Hu.out.mono ?_
        rintro e w7 ⟨A7, c7, rfl, hR7, h07, g8⟩
        have g9 := gb_none g7 g8
        go_wp2_with fail
        go_roundw
        case rel => exact ⟨k + 1, A7, c7, _, by omega, by go_num, Hn.out, rfl, hR7, h07, g9⟩
        case measure => simp [intOf]; omega
      | false =>
        have ho : ¬ Ok ⟨x.1, x.2, x.2⟩ := fun h => by have := hb.2 (one_may h); cases this
        have Hn : Hid (R = ofR [] (l.take (k + 1))) := by show _ = _; rw [Hm.out, if_neg ho, HR.out]
        clear hb ho hx6
        go_wp2_with fail
        go_roundw
        case rel => exact ⟨k + 1, A1, c1, R, by omega, by go_num, Hn, rfl, hR6, H0, g7⟩
        case measure => simp [intOf]; omega
    · have hkn : k = n := by omega
      subst hkn
      have d1 : decide (k < k) = false := by simp
      have d2 : decide ((k : Int) < (k : Int)) = false := by simp
      have He : Hid (R = ofR [] l) := by
        show _ = _
        have h := HR.out
        rwa [List.take_of_length_le (by rw [Hl.out.1]; exact Nat.le_refl _)] at h
      have hRR := Lib.hid hR
      clear hR
      go_wp2_with fail
      go_ret
      rw [← He.out]
      exact ⟨A1, c1, rfl, hRR.out, H0.out, hg⟩
end Go.Proofs.Ytblndpfgfakdeaa.Dt
